/- What the reference's FilledRow and Filled need: Down, winding numbers without wrapping, crossings put in order, rows joined. -/
import Derived.Test.YtijkoaggcmgjiaaFrw
import Derived.Test.YtijkoaggcmgjiaaRwn
import Derived.Test.YtijkoaggcmgjiaaPut
import Derived.Test.YtijkoaggcmgjiaaJoin
import Derived.Test.YtijkoaggcmgjiaaFst
namespace Go.Proofs.Ytijkoaggcmgjiaa
open Go Go.RowKit
set_option linter.unusedVariables false
set_option linter.unusedSimpArgs false

theorem tdmF (a b : Int) (hb : 1 ≤ b) (h : a < 0) : -(4 * a.tdiv b) ≤ -(4 * a) ∧ a.tdiv b ≤ 0 ∧ a.tmod b ≤ 0 ∧ -b < a.tmod b ∧ a.tmod b = a - b * a.tdiv b ∧
    (a.tmod b < 0 → a / b = a.tdiv b - 1 ∧ a % b = a.tmod b + b) ∧ (¬ a.tmod b < 0 → a / b = a.tdiv b ∧ a % b = a.tmod b) := by
  obtain ⟨n, rfl⟩ : ∃ n : Int, a = -n := ⟨-a, by omega⟩
  have hn : 0 < n := by omega
  rw [Int.neg_tdiv, Int.neg_tmod, Int.tdiv_eq_ediv_of_nonneg (by omega), Int.tmod_eq_emod_of_nonneg (by omega)]
  have e := Int.mul_ediv_add_emod n b
  have r0 := Int.emod_nonneg n (show b ≠ 0 by omega)
  have r1 := Int.emod_lt_of_pos n (show 0 < b by omega)
  have q0 : 0 ≤ n / b := Int.ediv_nonneg (by omega) (by omega)
  have q1 : n / b ≤ n := Int.ediv_le_self _ (by omega)
  have e' : b * (-(n / b)) = -(b * (n / b)) := Int.mul_neg _ _
  refine ⟨by omega, by omega, by omega, by omega, by rw [e']; omega, fun h => ?_, fun h => ?_⟩
  · have u := Int.ediv_emod_unique (a := -n) (b := b) (q := -(n / b) - 1) (r := -(n % b) + b) (by omega)
    obtain ⟨u1, u2⟩ := u.mpr ⟨by rw [Int.mul_sub, e']; omega, by omega, by omega⟩
    exact ⟨u1, u2⟩
  · have u := Int.ediv_emod_unique (a := -n) (b := b) (q := -(n / b)) (r := -(n % b)) (by omega)
    obtain ⟨u1, u2⟩ := u.mpr ⟨by rw [e']; omega, by omega, by omega⟩
    exact ⟨u1, u2⟩

theorem rdown_any (a b : Int) (w : World) (hb : 1 ≤ b) (ha1 : -4611686018427387904 ≤ a) (ha2 : a ≤ 4611686018427387904) (hb2 : b ≤ 4611686018427387904) :
    Calls Try.prog 91 #[.int .i64 a, .int .i64 b] w fun e w' => e = .returned (.int .i64 (a / b)) ∧ w = w' := by
  by_cases ha : 0 ≤ a
  · have r0 : 0 ≤ a % b := Int.emod_nonneg a (by omega)
    have r1 : a % b ≤ a := by
      have e := Int.mul_ediv_add_emod a b
      have q0 : 0 ≤ b * (a / b) := Int.mul_nonneg (by omega) (Int.ediv_nonneg (by omega) (by omega))
      omega
    go_enter Try.func91, Try.ntmps91
    go_wp2
    go_ret
    exact ⟨ret1_int (by
      have e := Int.mul_ediv_add_emod a b
      rw [show a - a % b = b * (a / b) by omega, Int.mul_ediv_cancel_left _ (by omega)]), rfl⟩
  · obtain ⟨b1, b2, b3, b4, e0, b5, b6⟩ := tdmF a b hb (by omega)
    have B5 := hid b5
    have B6 := hid b6
    have E0 := hid e0
    clear b5 b6 e0
    go_enter Try.func91, Try.ntmps91
    go_wp2
    all_goals go_ret
    · refine ⟨ret1_int ?_, rfl⟩
      rw [(B5.out (by assumption)).1, show a - (a.tmod b + b) = b * (a.tdiv b - 1) by rw [Int.mul_sub]; have := E0.out; omega, Int.mul_tdiv_cancel_left _ (by omega)]
    · refine ⟨ret1_int ?_, rfl⟩
      rw [(B6.out (by omega)).1, show a - a.tmod b = b * a.tdiv b by have := E0.out; omega, Int.mul_tdiv_cancel_left _ (by omega)]

theorem append_runsF {w : World} {B m c : Nat} {A : Option Addr} {v : Value} {xs ys : List Rn} (hB : B ≤ w.heap.size) (hown : OwnR w B v xs) (hm : m = ys.length) (hr : Runs w A ys) (hl : xs.length + m ≤ 5000000000) :
    ∃ v' w', (∀ ty, (Builtin.append_ #[25, 25] ty #[v, .slice A m c]).run Try.prog w = .ok v' w') ∧ OwnR w' B v' (xs ++ ys) ∧ Gr v v' w w' := by
  obtain ⟨i0, hi, hz0, hz1, hz2⟩ := info_parts infoRn
  subst hm
  cases A with
  | none =>
    have hy : ys = [] := by
      cases ys with
      | nil => rfl
      | cons y r => obtain ⟨a, h, -⟩ := hr (by simp); cases h
    subst hy
    refine ⟨v, w, fun ty => ?_, by simpa using hown, Gr.refl _ _⟩
    rcases hown.2 with ⟨rfl, h0⟩ | ⟨g, cap, cur, rfl, hbg, hg, hnc, hcm, hcs, htake⟩
    · simp [Builtin.append_, run_underlying Try.underlying25, sizeOf, typeInfo, hi, Builtin.lenOf, Builtin.firstCells]
    · simp [Builtin.append_, run_underlying Try.underlying25, sizeOf, typeInfo, hi, Builtin.lenOf, Builtin.firstCells, hnc, storeCells]
  | some a =>
    have hcells : ∀ j u, (flat ys)[j]? = some u → w.cell? (a.add j) = some u := fun j u hu => by
      have hj : j < ys.length * 3 := by
        rcases Nat.lt_or_ge j (ys.length * 3) with k | k
        · exact k
        · rw [List.getElem?_eq_none (by rw [flat_length]; exact k)] at hu; cases hu
      obtain ⟨q, r, rfl, hrr⟩ : ∃ q r, j = q * 3 + r ∧ r < 3 := ⟨j / 3, j % 3, by omega, by omega⟩
      have hq : q < ys.length := by omega
      have h2 := flat_get ys q r _ (List.getElem?_eq_getElem hq) hrr
      obtain ⟨a', ha, -, hc⟩ := hr (by intro e; subst e; simp at hq)
      cases ha
      have hat := hc q _ (List.getElem?_eq_getElem hq)
      rw [h2] at hu
      rw [← add_add']
      rcases (show r = 0 ∨ r = 1 ∨ r = 2 by omega) with rfl | rfl | rfl
      · exact hat.c0.trans hu
      · exact hat.c1.trans hu
      · exact hat.c2.trans hu
    obtain ⟨v', w', h1, h2, h3, h4, h5⟩ := run_append_own_at (P := Try.prog) w B 25 0 47 i0 _ 3 24 Try.underlying25 hi hz0 hz1 hz2 rfl (by decide) v xs.length (flat xs) hown
      a ys.length c (flat ys) (flat_length ys) hcells (fun u hu => flat_int ys u hu) (by unfold maxLen; omega) (by omega) hB
    refine ⟨v', w', fun ty => h1, ?_, ⟨h3, fun k hk => ?_⟩⟩
    · unfold OwnR
      rw [flat_append, List.length_append]
      exact h2
    · rcases h5 with h5 | h5
      · exact .inl (h5 ▸ hk)
      · rw [h5] at hk
        have : w.heap.size = k := by simpa using hk
        exact .inr (by omega)

/-! ### winding numbers -/
theorem wrap64_small {z : Int} (h : -4611686018427387904 ≤ z ∧ z ≤ 4611686018427387904) : wrap64 z = z := by
  unfold wrap64
  omega
theorem foldl_wind {x y : Int} {M : Int} (hM : 0 ≤ M ∧ M ≤ 2000000) : ∀ (es : List Ed) (s : Int), -(M - (es.length : Int)) ≤ s ∧ s ≤ M - (es.length : Int) → es.foldl (stepW x y) s = s + sumI (es.map fun e => edW e x y)
  | [], s, _ => by rw [List.map_nil, sumI_nil]; simp
  | e :: t, s, h => by
    have hd := slp_d e.1 e.2
    simp only [List.length_cons] at h
    rw [List.foldl_cons, List.map_cons, sumI_cons]
    have hs : stepW x y s e = s + edW e x y := by
      unfold stepW edW Sl.w
      by_cases k : ((slp e.1 e.2).hit y && decide ((slp e.1 e.2).cell y ≤ x)) = true
      · rw [if_pos k, if_pos k, wrap64_small (by omega)]
      · rw [if_neg k, if_neg k]; omega
    have hb : -1 ≤ edW e x y ∧ edW e x y ≤ 1 := by
      unfold edW Sl.w
      split <;> omega
    rw [hs, foldl_wind hM t _ (by omega)]
    omega
theorem windF_is {ls : List Ln} {x y : Int} (h : (edgesL ls).length ≤ 1000000) : windF (edgesL ls) x y = wind ls x y := by
  unfold windF wind
  rw [foldl_wind (M := 1000000) (by decide) _ _ (by omega)]
  omega

/-! ### crossings put in order -/
theorem Crs.none (y : Int) : Crs [] y [] := ⟨List.Pairwise.nil, fun b => ⟨fun h => (by cases h), fun ⟨e, he, _⟩ => (by cases he)⟩⟩
theorem Crs.pass {es : List Ed} {y : Int} {bs : List Int} (h : Crs es y bs) {e : Ed} (hh : (slp e.1 e.2).hit y = false) : Crs (es ++ [e]) y bs :=
  ⟨h.s, fun b => (h.m b).trans ⟨fun ⟨e', he, h1⟩ => ⟨e', List.mem_append_left _ he, h1⟩, fun ⟨e', he, h1, h2⟩ => by
    rcases List.mem_append.1 he with he | he
    · exact ⟨e', he, h1, h2⟩
    · rw [List.mem_singleton] at he; subst he; rw [hh] at h1; cases h1⟩⟩
theorem Crs.put {es : List Ed} {y : Int} {bs rs : List Int} (h : Crs es y bs) {e : Ed} (hh : (slp e.1 e.2).hit y = true) (hp : PutOf bs (stp y (slp e.1 e.2)).x rs) : Crs (es ++ [e]) y rs :=
  ⟨hp.sorted h.s, fun b => by
    rw [hp.mem, h.m]
    constructor
    · rintro (h1 | ⟨e', he, h1⟩)
      · exact ⟨e, by simp, hh, h1⟩
      · exact ⟨e', List.mem_append_left _ he, h1⟩
    · rintro ⟨e', he, h1, h2⟩
      rcases List.mem_append.1 he with he | he
      · exact .inr ⟨e', he, h1, h2⟩
      · rw [List.mem_singleton] at he; subst he; exact .inl h2⟩
theorem sorted_span {bs : List Int} (h : Sorted bs) : ∀ (i : Nat) (hi : i < bs.length), bs[0] + (i : Int) ≤ bs[i]
  | 0, hi => by simp
  | i + 1, hi => by
    have h1 := sorted_span h i (by omega)
    have h2 := sorted_lt h (by omega) hi (Nat.lt_succ_self i)
    omega
theorem Crs.len {es : List Ed} {y : Int} {bs : List Int} (h : Crs es y bs) : bs.length ≤ 16385 := by
  rcases Nat.eq_zero_or_pos bs.length with h0 | h0
  · omega
  · have h1 := sorted_span h.s (bs.length - 1) (by omega)
    have h2 := h.range _ (List.getElem_mem h0)
    have h3 := h.range _ (List.getElem_mem (show bs.length - 1 < bs.length by omega))
    omega
theorem edgesL_take {ls : List Ln} {i : Nat} (h : i < ls.length) : edgesL (ls.take (i + 1)) = edgesL (ls.take i) ++ edgs ls[i].ps := by
  unfold edgesL
  rw [List.take_succ_eq_append_getElem h, List.flatMap_append]
  simp
theorem edgs_take {ps : List P2} {k : Nat} (h : k < ps.length) : (edgs ps).take (k + 1) = (edgs ps).take k ++ [(ps.getD k default, ps.getD ((k + 1) % ps.length) default)] := by
  rw [List.take_add_one, edgs_get h]
  rfl
theorem cell_down {s : Sl} {y : Int} : -((s.h - s.num y) / (2 * s.h)) = s.cell y := by
  unfold Sl.cell
  rw [show 2 * -s.num y + 2 * s.h = 2 * (s.h - s.num y) by omega, Int.mul_ediv_mul_of_pos _ _ (by omega : (0 : Int) < 2)]
theorem own_ints {w : World} {B : Nat} {v : Value} {zs : List Int} (h : OwnI w B v zs) : ∀ k, v.ownBlock = some k → B ≤ k ∧ k < w.heap.size := World.ownsRow.lt h
end Go.Proofs.Ytijkoaggcmgjiaa
