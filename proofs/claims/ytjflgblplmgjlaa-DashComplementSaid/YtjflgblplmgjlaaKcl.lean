/- slices.Clone on points. -/
import Derived.Test.YtjflgblplmgjlaaKfw
import Derived.Deep.AppendLies
namespace Go.Proofs.Ytjflgblplmgjlaa
open Go Go.RowKit
set_option linter.unusedVariables false
set_option linter.unusedSimpArgs false

theorem OwnP.lit0 (w : World) : OwnP (w.alloc (.cells #[] 37)) w.heap.size (.slice (some ⟨w.heap.size, 0, none⟩) 0 0) [] := World.ownsRow_lit w #[] 0 (Nat.le_refl _) (by decide) rfl

/-- append of runs that came in. -/
theorem append_pts {w : World} {B m c : Nat} {A : Option Addr} {v : Value} {xs ys : List P2} (hB : B ≤ w.heap.size) (hown : OwnP w B v xs) (hm : m = ys.length) (hr : Pts w A ys) (hl : xs.length + m ≤ 5000000000) :
    ∃ v' w', (∀ ty, (Builtin.append_ #[25, 25] ty #[v, .slice A m c]).run Try.prog w = .ok v' w') ∧ OwnP w' B v' (xs ++ ys) ∧ Gr v v' w w' := by
  obtain ⟨i0, hi, hz0, hz1, hz2⟩ := info_parts infoPt
  subst hm
  cases A with
  | none =>
    have hy : ys = [] := by
      cases ys with
      | nil => rfl
      | cons y r => obtain ⟨a, h, -⟩ := hr (by simp); cases h
    subst hy
    refine ⟨v, w, fun ty => ?_, by simpa using hown, Gr.refl _ _⟩
    rcases hown.2 with ⟨rfl, h0⟩ | ⟨g, cap, cur, rfl, hbg, hg, hnc, hcm, hcs, htake⟩
    · simp [Builtin.append_, run_underlying Try.underlying25, sizeOf, typeInfo, hi, Builtin.lenOf, Builtin.firstCells]
    · simp [Builtin.append_, run_underlying Try.underlying25, sizeOf, typeInfo, hi, Builtin.lenOf, Builtin.firstCells, hnc, storeCells]
  | some a =>
    have hcells : ∀ j u, (flatP ys)[j]? = some u → w.cell? (a.add j) = some u := fun j u hu => by
      have hj : j < ys.length * 2 := by
        rcases Nat.lt_or_ge j (ys.length * 2) with k | k
        · exact k
        · rw [List.getElem?_eq_none (by rw [flatP_length]; exact k)] at hu; cases hu
      obtain ⟨q, r, rfl, hrr⟩ : ∃ q r, j = q * 2 + r ∧ r < 2 := ⟨j / 2, j % 2, by omega, by omega⟩
      have hq : q < ys.length := by omega
      have h2 := flatP_get ys q r _ (List.getElem?_eq_getElem hq) hrr
      obtain ⟨a', ha, -, hc⟩ := hr (by intro e; subst e; simp at hq)
      cases ha
      have hat := hc q _ (List.getElem?_eq_getElem hq)
      rw [h2] at hu
      rw [← add_add']
      rcases (show r = 0 ∨ r = 1 by omega) with rfl | rfl
      · exact hat.c0.trans hu
      · exact hat.c1.trans hu
    obtain ⟨v', w', h1, h2, h3, h4, h5⟩ := run_append_own_at (P := Try.prog) w B 25 0 37 i0 _ 2 16 Try.underlying25 hi hz0 hz1 hz2 rfl (by decide) v xs.length (flatP xs) hown
      a ys.length c (flatP ys) (flatP_length ys) hcells (fun u hu => flatP_int ys u hu) (by unfold maxLen; omega) (by omega) hB
    refine ⟨v', w', fun ty => h1, ?_, ⟨h3, fun k hk => ?_⟩⟩
    · unfold OwnP
      rw [flatP_append, List.length_append]
      exact h2
    · rcases h5 with h5 | h5
      · exact .inl (h5 ▸ hk)
      · rw [h5] at hk
        have : w.heap.size = k := by simpa using hk
        exact .inr (by omega)

set_option maxHeartbeats 1000000 in
set_option maxRecDepth 100000 in
theorem clone_any (A : Option Addr) (ps : List P2) (n c : Nat) (w : World) (hn : n = ps.length) (hl : n ≤ 5000000000) (hs : Pts w A ps) :
    Calls Try.prog 34 #[.slice A n c] w fun e w' => ∃ v, e = .returned v ∧ OwnP w' w.heap.size v ps ∧ Below w.heap.size w w' := by
  by_cases hA : A.isNone = true
  · obtain rfl : ps = [] := by
      cases ps with
      | nil => rfl
      | cons y r => obtain ⟨a, h, -⟩ := hs (by simp); rw [h] at hA; cases hA
    clear hs hn
    have hq : ∀ w : World, (binOp .eql 25 (.slice A n c) (.slice none 0 0)).run Try.prog w = .ok (.bool true) w := fun w => by rw [Lib.run_eql_slice_nil w _ _ A n c 0 0 Try.underlying25, hA]
    go_enter Try.func34, Try.ntmps34
    go_wp2_with fail
    go_ret
    exact ⟨_, rfl, OwnP.nil _ _, Below.refl _ _⟩
  · obtain ⟨a, rfl⟩ : ∃ a, A = some a := by
      cases A with
      | none => exact absurd rfl hA
      | some a => exact ⟨a, rfl⟩
    clear hA
    have HN := hid hn
    have HS := hid hs
    clear hn hs
    have hq : ∀ w : World, (binOp .eql 25 (.slice (some a) n c) (.slice none 0 0)).run Try.prog w = .ok (.bool false) w := fun w => Lib.run_eql_slice_nil w _ _ (some a) n c 0 0 Try.underlying25
    go_enter Try.func34, Try.ntmps34
    go_upto_region 3 with fail
    rename_i Kn hKn
    refine wp_region_lit ?_
    refine sq_start (n := 8) rfl fun a0 hs0 => ?_
    have ha0 := (((hs0.pin 0 (v := .slice (some a) n c) rfl).pin 2 (v := .slice none 0 0) rfl).pin 4 (v := .bool false) rfl)
    clear hs0
    generalize (fun i => Array.getD _ i undef) = g0 at ha0
    refine sq_val (v := .slice (some ⟨w.heap.size, 0, none⟩) 0 0) ha0 rfl (run_litP0) fun a1 ha1 => ?_
    refine sq_val (v := .slice (some a) n c) ha1 rfl (rfl) fun a2 ha2 => ?_
    obtain ⟨v', w3, h1, h2, h3⟩ := append_pts (B := w.heap.size) (m := n) (c := c) (by simp) (OwnP.lit0 w) HN.out (HS.out.next (below_alloc (Below.refl _ w) _)) (by simpa using hl)
    refine sq_val (v := v') ha2 rfl (run_append rfl rfl (h1 _)) fun a3 ha3 => ?_
    refine sq_val (v := v') ha3 rfl (rfl) fun a4 ha4 => ?_
    refine wpList_nil ?_
    refine hKn _ _ ?_
    obtain ⟨g9, hg9, k0, k2, k4⟩ : ∃ g9, Is a4 8 g9 ∧ g9 0 = .slice (some a) n c ∧ g9 2 = v' ∧ g9 4 = .bool false := ⟨_, ha4, rfl, rfl, rfl⟩
    have hw := hg9.whole
    rw [show ((List.range 8).map g9).toArray = #[g9 0, g9 1, g9 2, g9 3, g9 4, g9 5, g9 6, g9 7] from rfl] at hw
    rw [k0, k2, k4] at hw
    subst hw
    clear hg9 k0 k2 k4
    have HO3 := hid (show OwnP w3 w.heap.size v' ps by simpa using h2)
    have HB3 := hid (show Below w.heap.size w w3 from (Gr.of_below (v := .slice (some ⟨w.heap.size, 0, none⟩) 0 0) (below_alloc (Below.refl _ w) _)).trans h3 |>.below (Nat.le_refl _) (fun k e => by simp [Value.ownBlock] at e; omega))
    clear h1 h2 h3
    clear ha0 ha1 ha2 ha3 ha4 hKn Kn
    go_wp2_with fail
    go_ret
    exact ⟨v', rfl, HO3.out, HB3.out⟩

end Go.Proofs.Ytjflgblplmgjlaa
