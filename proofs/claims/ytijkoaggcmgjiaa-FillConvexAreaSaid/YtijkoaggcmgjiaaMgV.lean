/- Put together by merge.py: Area, Cnt, CoSRev, Kcl, FllE, Krv, Tri, Cvx, Cvw. -/
import Derived.Test.YtijkoaggcmgjiaaCmb
import Derived.Test.YtijkoaggcmgjiaaChk
import Derived.Test.YtijkoaggcmgjiaaComb
import Derived.Test.YtijkoaggcmgjiaaMgD
import Derived.Test.YtijkoaggcmgjiaaMgK
import Derived.Deep.AppendLies
import Derived.Test.YtijkoaggcmgjiaaFst
import Derived.Test.YtijkoaggcmgjiaaFra
import Derived.Test.YtijkoaggcmgjiaaEqr

/- Area of package region. -/
namespace Go.Proofs.Ytijkoaggcmgjiaa
open Go Go.RowKit
set_option linter.unusedVariables false

/-- The number of cells, run by run. -/
def areaL : List Rn → Int
  | [] => 0
  | r :: rs => (r.b - r.a) + areaL rs
theorem areaL_snoc (rs : List Rn) (r : Rn) : areaL (rs ++ [r]) = areaL rs + (r.b - r.a) := by
  induction rs with
  | nil => simp [areaL]
  | cons s rs ih => rw [List.cons_append, areaL, areaL, ih]; omega

set_option maxHeartbeats 2000000 in
set_option maxRecDepth 100000 in
theorem area_any (A : Option Addr) (ss : List Rn) (n c : Nat) (w : World) (hn : n = ss.length) (hs : Runs w A ss) (hc : chk ss = 0) :
    Calls Try.prog 27 #[.slice A n c] w fun e w' => e = .returned (.tuple #[.int .i64 (areaL ss), .int .i64 0]) ∧ Below w.heap.size w w' := by
  have HS := hid hs
  have HN := hid hn
  have HC := hid hc
  have hnb : n ≤ 1000000000 := by rw [hn]; exact chk_len hc
  have hl : n ≤ maxLen := by unfold maxLen; omega
  clear hs hn hc
  go_enter Try.func27, Try.ntmps27
  go_wp2_with fail
  (with_reducible refine (check_any A ss n c _ HN.out hl HS.out).mono ?_); rintro e w1 ⟨rfl, hb⟩
  rw [HC.out]
  have HB := hid hb
  clear hb
  go_wp2_with fail
  go_loopw [15, 5] (fun s15 s5 wr => ∃ (j : Nat) (t : Int), j ≤ n ∧ s15 = .int .i64 j ∧ s5 = .int .i64 t ∧ 0 ≤ t ∧ t ≤ 16384 * j ∧ Hid (t = areaL (ss.take j)) ∧ Hid (Below w.heap.size w wr)) (fun s15 _ _ => n - (intOf s15).toNat)
  case atStart => exact ⟨0, 0, Nat.zero_le _, rfl, rfl, by omega, by omega, hid rfl, HB⟩
  case round =>
    obtain ⟨j, t, hj, rfl, rfl, ht0, ht1, HT, HB⟩ := hrel
    by_cases hlt : j < n
    · have hjl : j < ss.length := by rw [← HN.out]; exact hlt
      obtain ⟨a, rfl, hal, hsa⟩ := (HS.out.next HB.out).at_ hjl
      have HA := hid (show t + (ss[j].b - ss[j].a) = areaL (ss.take (j + 1)) by rw [List.take_succ_eq_append_getElem hjl, areaL_snoc, HT.out])
      have hr := (chk_all HC.out).1 _ (List.getElem_mem hjl)
      unfold RnOk RnIn at hr
      generalize ss[j] = r at hsa HA hr
      obtain ⟨c0, c1, c2⟩ := hsa
      have HB2 := hid (below_alloc HB.out (.cells (cel r) 47))
      clear HT
      go_wp2_with fail
      go_roundw
      case rel => exact ⟨j + 1, t + (r.b - r.a), by omega, by go_num, rfl, by omega, by omega, HA, HB2⟩
      case measure => simp [intOf]; omega
    · have HE := hid (show t = areaL ss by have := HT.out; rwa [List.take_of_length_le (by have := HN.out; omega)] at this)
      go_wp2_with fail
      go_ret2
      exact ⟨by rw [← HE.out]; rfl, HB.out⟩

end Go.Proofs.Ytijkoaggcmgjiaa

/- The number of cells of a region is its area. -/
namespace Go.Proofs.Ytijkoaggcmgjiaa
open Go
set_option linter.unusedVariables false

def sumN : Nat → (Nat → Nat) → Nat
  | 0, _ => 0
  | n + 1, g => sumN n g + g n
theorem sumN_add (g h : Nat → Nat) : ∀ n, sumN n (fun i => g i + h i) = sumN n g + sumN n h
  | 0 => rfl
  | n + 1 => by simp only [sumN]; rw [sumN_add g h n]; omega
theorem sumN_congr {g h : Nat → Nat} (k : ∀ i, g i = h i) : ∀ n, sumN n g = sumN n h
  | 0 => rfl
  | n + 1 => by simp only [sumN]; rw [sumN_congr k n, k n]
theorem sumN_zero : ∀ n, sumN n (fun _ => 0) = 0
  | 0 => rfl
  | n + 1 => by simp only [sumN]; rw [sumN_zero n]
theorem sumN_one (k c : Nat) : ∀ n, sumN n (fun i => if i = k then c else 0) = if k < n then c else 0
  | 0 => by simp [sumN]
  | n + 1 => by
    simp only [sumN]
    rw [sumN_one k c n]
    by_cases h1 : k < n
    · rw [if_pos h1, if_neg (by omega), if_pos (by omega), Nat.add_zero]
    · by_cases h2 : n = k
      · rw [if_neg h1, if_pos h2, if_pos (by omega)]; omega
      · rw [if_neg h1, if_neg h2, if_neg (by omega)]
theorem sumN_seg (lo hi : Nat) (h : lo ≤ hi) : ∀ n, sumN n (fun i => if lo ≤ i ∧ i < hi then 1 else 0) = min n hi - min n lo
  | 0 => by simp [sumN]
  | n + 1 => by
    simp only [sumN]
    rw [sumN_seg lo hi h n]
    by_cases h1 : lo ≤ n ∧ n < hi
    · rw [if_pos h1]; omega
    · rw [if_neg h1]; omega
/-- The number of cells of a set. -/
def cnt (f : Int → Int → Bool) : Nat := sumN 16384 fun y => sumN 16384 fun x => if f ((x : Int) - 8192) ((y : Int) - 8192) = true then 1 else 0
theorem cnt_add {f g a b : Int → Int → Bool} (h : ∀ x y, (if f x y = true then 1 else 0) + (if g x y = true then 1 else 0) = (if a x y = true then 1 else 0) + (if b x y = true then (1 : Nat) else 0)) : cnt f + cnt g = cnt a + cnt b := by
  unfold cnt
  rw [← sumN_add, ← sumN_add]
  refine sumN_congr (fun y => ?_) _
  rw [← sumN_add, ← sumN_add]
  exact sumN_congr (fun x => h _ _) _
theorem cnt_none : cnt (fun _ _ => false) = 0 := by
  unfold cnt
  refine (sumN_congr (fun y => ?_) _).trans (sumN_zero _)
  exact (sumN_congr (fun x => by simp) _).trans (sumN_zero _)
theorem cnt_run {r : Rn} (h : RnOk r) : (cnt (hasR r) : Int) = r.b - r.a := by
  obtain ⟨⟨h1, h2, h3⟩, h4⟩ := h
  have e : cnt (hasR r) = sumN 16384 (fun y => if y = (r.y + 8192).toNat then (r.b - r.a).toNat else 0) := by
    unfold cnt
    refine sumN_congr (fun y => ?_) _
    by_cases hy : y = (r.y + 8192).toNat
    · rw [if_pos hy]
      refine (sumN_congr (h := fun i => if (r.a + 8192).toNat ≤ i ∧ i < (r.b + 8192).toNat then 1 else 0) (fun x => ?_) _).trans ?_
      · unfold hasR
        simp only [decide_eq_true_eq]
        by_cases hx : (r.a + 8192).toNat ≤ x ∧ x < (r.b + 8192).toNat
        · rw [if_pos hx, if_pos (by omega)]
        · rw [if_neg hx, if_neg (by omega)]
      · rw [sumN_seg _ _ (by omega)]; omega
    · rw [if_neg hy]
      refine (sumN_congr (fun x => ?_) _).trans (sumN_zero _)
      unfold hasR
      simp only [decide_eq_true_eq]
      rw [if_neg (by omega)]
  rw [e, sumN_one, if_pos (by omega)]
  omega
theorem area_cnt : ∀ {rs : List Rn} {p : Option Rn}, chkAll p rs = 0 → areaL rs = cnt (has rs)
  | [], _, _ => by
    have : has [] = fun _ _ => false := rfl
    rw [this, cnt_none]; rfl
  | r :: rs, p, h => by
    obtain ⟨h1, h2, h3⟩ := chkAll_cons.1 h
    have ih := area_cnt h3
    have hb := (chkAll_all h3).1
    have e : cnt (has (r :: rs)) + cnt (fun _ _ => false) = cnt (hasR r) + cnt (has rs) := cnt_add fun x y => by
      rw [has_cons]
      cases hr : hasR r x y
      · simp
      · cases hs : has rs x y
        · simp
        · exfalso
          obtain ⟨t, ht, f1, f2, f3⟩ := has_iff.1 hs
          have h2 : Bh t r := (hb t ht).2
          unfold Bh at h2
          unfold hasR at hr
          have := of_decide_eq_true hr
          omega
    rw [cnt_none, Nat.add_zero] at e
    rw [areaL, ih, e, ← cnt_run h1]
    omega
/-- Inclusion and exclusion. -/
theorem areas {a b u i d x : List Rn} (ha : chk a = 0) (hb : chk b = 0) (hu : IsOp (fun p q => p || q) a b u) (hi : IsOp (fun p q => p && q) a b i) (hd : IsOp (fun p q => p && !q) a b d) (hx : IsOp (fun p q => p != q) a b x) :
    areaL u = areaL a + areaL b - areaL i ∧ areaL d = areaL a - areaL i ∧ areaL x = areaL u - areaL i := by
  rw [area_cnt (p := none) ha, area_cnt (p := none) hb, area_cnt (p := none) hu.v, area_cnt (p := none) hi.v, area_cnt (p := none) hd.v, area_cnt (p := none) hx.v]
  have h1 : cnt (has u) + cnt (has i) = cnt (has a) + cnt (has b) := cnt_add fun x y => by rw [hu.h, hi.h]; cases has a x y <;> cases has b x y <;> rfl
  have h2 : cnt (has d) + cnt (has i) = cnt (has a) + cnt (fun _ _ => false) := cnt_add fun x y => by rw [hd.h, hi.h]; cases has a x y <;> cases has b x y <;> rfl
  have h3 : cnt (has x) + cnt (has i) = cnt (has u) + cnt (fun _ _ => false) := cnt_add fun s t => by rw [hx.h, hi.h, hu.h]; cases has a s t <;> cases has b s t <;> rfl
  rw [cnt_none] at h2 h3
  omega

end Go.Proofs.Ytijkoaggcmgjiaa

/- slices.Reverse and slices.Equal on points. -/
namespace Go.Proofs.Ytijkoaggcmgjiaa.Co
open Go Go.RowKit
set_option linter.unusedVariables false
set_option linter.unusedSimpArgs false

section
variable {ρ : Operand → Value} {dst : Option Tmp} {ty : TypeId} {pos : String} {af : Array Edge} {x y : Operand} {w : World} {gd : Option (Nat × Bool)}
theorem run_ptAt {g j : Nat} {p : P2} (hx : ρ x = .pointer (some ⟨g, j, none⟩)) (h0 : w.cell? ⟨g, j, none⟩ = some (.int .i64 p.x)) (h1 : w.cell? ⟨g, j + 1, none⟩ = some (.int .i64 p.y)) :
    (execOp ρ { dst := dst, op := .load 40 x, type := ty, pos := pos, after := af, guard := gd }).run Try.prog w = .ok (.value (ptv p)) w := by
  go_simp
end
theorem grown_trans {w w1 w2 : World} {o : Option Nat} (h : w.grownBy w1 o) (h' : w1.grownBy w2 o) : w.grownBy w2 o :=
  ⟨h'.os.trans h.os, h'.tape.trans h.tape, h'.output.trans h.output, Nat.le_trans h.size h'.size, fun k hk hne => (h'.block k (Nat.lt_of_lt_of_le hk h.size) hne).trans (h.block k hk hne)⟩
theorem grown_refl (w : World) (o : Option Nat) : w.grownBy w o := ⟨rfl, rfl, rfl, Nat.le_refl _, fun _ _ _ => rfl⟩
theorem grown_drew (w : World) (o : Option Nat) : w.grownBy w.drew o := ⟨rfl, rfl, rfl, Nat.le_refl _, fun _ _ _ => rfl⟩
theorem grown_set (w : World) (g j : Nat) (u : Value) : w.grownBy (w.setCell ⟨g, j, none⟩ u) (some g) :=
  ⟨rfl, rfl, rfl, by simp [World.setCell], fun k _ hne => Below.heap_setCell _ _ _ _ (fun e => hne (by rw [e]))⟩
/-- The point that stands at t when k points of each end have changed places. -/
def rvi (n k t : Nat) : Nat := if t < k ∨ n ≤ t + k then n - 1 - t else t
def RSt (n k : Nat) (ps : List P2) (cs : Array Value) : Prop := ∀ t, t < n → cs[t * 2]? = some (.int .i64 (ps.getD (rvi n k t) default).x) ∧ cs[t * 2 + 1]? = some (.int .i64 (ps.getD (rvi n k t) default).y)
theorem RSt.swap {n k j : Nat} {ps : List P2} {cs : Array Value} (h : RSt n k ps cs) (hn : k + j + 1 = n) (hlt : k < j) (hsz : n * 2 ≤ cs.size) :
    RSt n (k + 1) ps ((((cs.setIfInBounds (k * 2) (.int .i64 (ps.getD j default).x)).setIfInBounds (k * 2 + 1) (.int .i64 (ps.getD j default).y)).setIfInBounds (j * 2) (.int .i64 (ps.getD k default).x)).setIfInBounds (j * 2 + 1) (.int .i64 (ps.getD k default).y)) := by
  intro t ht
  by_cases e : t = k
  · subst e
    rw [show rvi n (t + 1) t = j by unfold rvi; rw [if_pos (by omega)]; omega]
    constructor
    · rw [Array.getElem?_setIfInBounds_ne (by omega), Array.getElem?_setIfInBounds_ne (by omega), Array.getElem?_setIfInBounds_ne (by omega), Array.getElem?_setIfInBounds_self_of_lt (by omega)]
    · rw [Array.getElem?_setIfInBounds_ne (by omega), Array.getElem?_setIfInBounds_ne (by omega), Array.getElem?_setIfInBounds_self_of_lt (by simp; omega)]
  · by_cases e2 : t = j
    · subst e2
      rw [show rvi n (k + 1) t = k by unfold rvi; rw [if_pos (by omega)]; omega]
      constructor
      · rw [Array.getElem?_setIfInBounds_ne (by omega), Array.getElem?_setIfInBounds_self_of_lt (by simp; omega)]
      · rw [Array.getElem?_setIfInBounds_self_of_lt (by simp; omega)]
    · have hr : rvi n (k + 1) t = rvi n k t := by
        unfold rvi
        by_cases hc : t < k ∨ n ≤ t + k
        · rw [if_pos hc, if_pos (by omega)]
        · rw [if_neg hc, if_neg (by omega)]
      rw [hr, Array.getElem?_setIfInBounds_ne (by omega), Array.getElem?_setIfInBounds_ne (by omega), Array.getElem?_setIfInBounds_ne (by omega), Array.getElem?_setIfInBounds_ne (by omega), Array.getElem?_setIfInBounds_ne (by omega), Array.getElem?_setIfInBounds_ne (by omega), Array.getElem?_setIfInBounds_ne (by omega), Array.getElem?_setIfInBounds_ne (by omega)]
      exact h t ht
theorem RSt.at_ {n k t : Nat} {ps : List P2} {cs : Array Value} {w : World} {g : Nat} {T : TypeId} (h : RSt n k ps cs) (hV : Var w g cs T) (ht : t < n) (h1 : k ≤ t) (h2 : t + k < n) :
    w.cell? ⟨g, t * 2, none⟩ = some (.int .i64 (ps.getD t default).x) ∧ w.cell? ⟨g, t * 2 + 1, none⟩ = some (.int .i64 (ps.getD t default).y) := by
  have := h t ht
  rw [show rvi n k t = t by unfold rvi; rw [if_neg (by omega)]] at this
  exact ⟨(hV.cell _).trans this.1, (hV.cell _).trans this.2⟩
theorem RSt.done {n k j : Nat} {ps : List P2} {cs : Array Value} {w : World} {g : Nat} {T : TypeId} (h : RSt n k ps cs) (hV : Var w g cs T) (hn : k + j + 1 = n) (hle : j ≤ k) (hp : n = ps.length) : Row2 w g ps.reverse := by
  intro t p ht
  have htn : t < n := by
    rcases Nat.lt_or_ge t n with e | e
    · exact e
    · rw [List.getElem?_eq_none (by simp; omega)] at ht; cases ht
  have := h t htn
  have hr : rvi n k t = n - 1 - t := by
    unfold rvi
    split
    · rfl
    · omega
  rw [List.getElem?_reverse (by omega)] at ht
  rw [hr, List.getD_eq_getElem?_getD, hp, ht] at this
  exact ⟨(hV.cell _).trans this.1, (hV.cell _).trans this.2⟩

/-- The memory while two points change places. -/
structure MSw (W W1 W2 : World) (L : Nat → Bool) (w : World) : Prop where
  a : L 15 = true → L 13 = true
  b : L 13 = true → L 7 = true ∧ L 11 = true
  w0 : L 13 = false → w = W.drew
  w1 : L 13 = true → L 15 = false → w = W1
  w2 : L 15 = true → w = W2
section
variable {W W1 W2 w w' : World} {L : Nat → Bool} {i : Nat}
theorem MSw.next (h : MSw W W1 W2 L w) (hi : (Nat.beq 13 i || Nat.beq 15 i) = false) : MSw W W1 W2 (Iv.mark L i) w := by
  rw [Bool.or_eq_false_iff] at hi
  have ne : ∀ {a b : Nat}, Nat.beq a b = false → a ≠ b := fun h e => by rw [e, Nat.beq_refl] at h; cases h
  have e1 : Iv.mark L i 13 = L 13 := mark_ne (ne hi.1)
  have e2 : Iv.mark L i 15 = L 15 := mark_ne (ne hi.2)
  refine ⟨fun k => ?_, fun k => ?_, fun k => ?_, fun k k' => ?_, fun k => ?_⟩
  · rw [e1]; exact h.a (by rwa [e2] at k)
  · rw [e1] at k; exact ⟨mark_le (h.b k).1, mark_le (h.b k).2⟩
  · exact h.w0 (by rwa [e1] at k)
  · exact h.w1 (by rwa [e1] at k) (by rwa [e2] at k')
  · exact h.w2 (by rwa [e2] at k)
theorem MSw.start0 (h : MSw W W1 W2 L w) (hi : L 7 = false ∨ L 11 = false) : w = W.drew := by
  refine h.w0 ?_
  cases e : L 13
  · rfl
  · obtain ⟨h1, h2⟩ := h.b e
    rcases hi with k | k
    · rw [h1] at k; cases k
    · rw [h2] at k; cases k
theorem MSw.start1 (h : MSw W W1 W2 L w) (hi : L 13 = false) : w = W.drew := h.w0 hi
theorem MSw.start2 (h : MSw W W1 W2 L w) (h3 : L 13 = true) (hi : L 15 = false) : w = W1 := h.w1 h3 hi
theorem MSw.st13 (h : MSw W W1 W2 L w) (h7 : L 7 = true) (h11 : L 11 = true) (hi : L 13 = false) : MSw W W1 W2 (Iv.mark L 13) W1 := by
  have h15 : L 15 = false := by
    cases e : L 15
    · rfl
    · rw [h.a e] at hi; cases hi
  have e2 : Iv.mark L 13 15 = L 15 := mark_ne (by decide)
  have e1 : Iv.mark L 13 13 = true := rfl
  refine ⟨fun k => e1, fun k => ⟨mark_le h7, mark_le h11⟩, fun k => ?_, fun k k' => rfl, fun k => ?_⟩
  · rw [e1] at k; cases k
  · rw [e2, h15] at k; cases k
theorem MSw.st15 (h : MSw W W1 W2 L w) (h13 : L 13 = true) : MSw W W1 W2 (Iv.mark L 15) W2 := by
  have e1 : Iv.mark L 15 13 = L 13 := mark_ne (by decide)
  have e2 : Iv.mark L 15 15 = true := rfl
  refine ⟨fun k => by rw [e1]; exact h13, fun k => ⟨mark_le (h.b h13).1, mark_le (h.b h13).2⟩, fun k => ?_, fun k k' => ?_, fun k => rfl⟩
  · rw [e1, h13] at k; cases k
  · rw [e2] at k'; cases k'
end

set_option maxHeartbeats 3200000 in
set_option maxRecDepth 100000 in
theorem srev_any (g n c : Nat) (ps : List P2) (cs : Array Value) (w : World) (hn : n = ps.length) (h0 : 0 < n) (hm : n ≤ 1000000) (hV : Var w g cs 40) (hsz : n * 2 ≤ cs.size) (hr : Row2 w g ps) :
    Calls Try.prog 26 #[.slice (some ⟨g, 0, none⟩) n c] w fun e w' => (∃ v, e = .returned v) ∧ Row2 w' g ps.reverse ∧ w.grownBy w' (some g) ∧ ∃ cs', Var w' g cs' 40 ∧ cs'.size = cs.size := by
  have HN := hid hn
  obtain ⟨Z, hZ⟩ : ∃ Z, cs.size = Z := ⟨_, rfl⟩
  rw [hZ]
  have HV := hid hV
  have HS := hid (show RSt n 0 ps cs from fun t ht => by
    rw [show rvi n 0 t = t by unfold rvi; rw [if_neg (by omega)]]
    have hq : ps[t]? = some (ps.getD t default) := by rw [List.getD_eq_getElem?_getD, List.getElem?_eq_getElem (by omega)]; rfl
    obtain ⟨r1, r2⟩ := hr t _ hq
    exact ⟨(hV.cell _).symm.trans r1, (hV.cell _).symm.trans r2⟩)
  clear hn hV hr
  go_enter Try.func26, Try.ntmps26
  go_wp2_with fail
  go_loopw [2, 3] (fun s2 s3 wr => ∃ (k j : Nat) (cs : Array Value), k + j + 1 = n ∧ k ≤ j + 1 ∧ s2 = .int .i64 (k : Int) ∧ s3 = .int .i64 (j : Int) ∧ Hid (Var wr g cs 40) ∧ Hid (n * 2 ≤ cs.size ∧ cs.size = Z) ∧ Hid (RSt n k ps cs) ∧ Hid (w.grownBy wr (some g))) (fun s2 _ _ => n - (intOf s2).toNat)
  case atStart => exact ⟨0, n - 1, cs, by omega, by omega, rfl, by congr 1; omega, HV, hid ⟨hsz, hZ⟩, HS, hid (grown_refl _ _)⟩
  case round =>
    obtain ⟨k, j, cs, hkj, hk, rfl, rfl, HV, HZ, HS, HG⟩ := hrel
    by_cases hlt : k < j
    · obtain ⟨q, hq⟩ : ∃ q, ps.getD j default = q := ⟨_, rfl⟩
      obtain ⟨p, hp⟩ : ∃ p, ps.getD k default = p := ⟨_, rfl⟩
      have HQ := hid (HS.out.at_ HV.out (t := j) (by omega) (by omega) (by omega))
      have HP := hid (HS.out.at_ HV.out (t := k) (by omega) (by omega) (by omega))
      have HS1 := hid (HS.out.swap hkj hlt HZ.out.1)
      rw [hq] at HQ HS1
      rw [hp] at HP HS1
      have hz := HZ.out.1
      have hltb : decide ((k : Int) < (j : Int)) = true := decide_eq_true (by omega)
      clear hq hp hsz
      go_upto_region 3 with fail
      rename ∀ (a : Act) (w : World), Code.wp _ _ _ a w → (_ : Act → World → Prop) a w => hKn
      have HV0 := hid (show Var wr.drew g cs 40 from HV.out)
      have HV1 := hid ((HV0.out.set (i := k * 2) (.int .i64 q.x)).set (i := k * 2 + 1) (.int .i64 q.y))
      have HV2 := hid ((HV1.out.set (i := j * 2) (.int .i64 p.x)).set (i := j * 2 + 1) (.int .i64 p.y))
      have HG2 := hid (grown_trans HG.out (grown_trans (grown_drew wr (some g)) (grown_trans (grown_set _ g (k * 2) (.int .i64 q.x)) (grown_trans (grown_set _ g (k * 2 + 1) (.int .i64 q.y)) (grown_trans (grown_set _ g (j * 2) (.int .i64 p.x)) (grown_set _ g (j * 2 + 1) (.int .i64 p.y)))))))
      have HZ2 := hid (show n * 2 ≤ ((((cs.setIfInBounds (k * 2) (.int .i64 q.x)).setIfInBounds (k * 2 + 1) (.int .i64 q.y)).setIfInBounds (j * 2) (.int .i64 p.x)).setIfInBounds (j * 2 + 1) (.int .i64 p.y)).size ∧ ((((cs.setIfInBounds (k * 2) (.int .i64 q.x)).setIfInBounds (k * 2 + 1) (.int .i64 q.y)).setIfInBounds (j * 2) (.int .i64 p.x)).setIfInBounds (j * 2 + 1) (.int .i64 p.y)).size = Z by have hz2 := HZ.out.2; simp; omega)
      refine Iv.wp_region_inv (n := 28) (TI [some 14, some 15, some 16, some 17, some 18, some 19, some 20, some 21, some 22, some 23, some 24, some 25, some 26, none, some 27, none]
        [.slice (some ⟨g, 0, none⟩) n c, .int .i64 (k : Int), .slice (some ⟨g, 0, none⟩) n c, .int .i64 (j : Int), .slice (some ⟨g, 0, none⟩) n c, .int .i64 (j : Int), .pointer (some ⟨g, j * 2, none⟩), ptv q, .slice (some ⟨g, 0, none⟩) n c, .int .i64 (k : Int), .pointer (some ⟨g, k * 2, none⟩), ptv p, .pointer (some ⟨g, k * 2, none⟩), undef, .pointer (some ⟨g, j * 2, none⟩), undef]
        [(0, .slice (some ⟨g, 0, none⟩) n c), (1, undef), (2, .int .i64 (k : Int)), (3, .int .i64 (j : Int)), (4, .slice (some ⟨g, 0, none⟩) n c), (5, .int .i64 (n : Int)), (6, .int .i64 ((n : Int) - 1))] (MSw wr ((wr.drew.setCell ⟨g, k * 2, none⟩ (.int .i64 q.x)).setCell ⟨g, k * 2 + 1, none⟩ (.int .i64 q.y)) ((((wr.drew.setCell ⟨g, k * 2, none⟩ (.int .i64 q.x)).setCell ⟨g, k * 2 + 1, none⟩ (.int .i64 q.y)).setCell ⟨g, j * 2, none⟩ (.int .i64 p.x)).setCell ⟨g, j * 2 + 1, none⟩ (.int .i64 p.y)))) _ (by kernel_rfl) (by kernel_rfl) (Is.start _ rfl) ?_ ?_ ?_
      · refine ⟨fun i d _ h => (by cases h), fun q hq => ?_, ⟨fun h => (by cases h), fun h => (by cases h), fun _ => rfl, fun h => (by cases h), fun h => (by cases h)⟩⟩
        simp only [List.mem_cons, List.not_mem_nil, or_false] at hq
        rcases hq with rfl | rfl | rfl | rfl | rfl | rfl | rfl
        all_goals rfl
      · exact ⟨ti_val rfl rfl rfl (fun _ _ h => h.next rfl) rfl fun L f wx hL hdep H => congrArg (fun v => Result.ok (Next.value v) wx) (H.x (0, .slice (some ⟨g, 0, none⟩) n c) (by simp)),
        ti_val rfl rfl rfl (fun _ _ h => h.next rfl) rfl fun L f wx hL hdep H => congrArg (fun v => Result.ok (Next.value v) wx) (H.x (2, .int .i64 (k : Int)) (by simp)),
        ti_val rfl rfl rfl (fun _ _ h => h.next rfl) rfl fun L f wx hL hdep H => congrArg (fun v => Result.ok (Next.value v) wx) (H.x (0, .slice (some ⟨g, 0, none⟩) n c) (by simp)),
        ti_val rfl rfl rfl (fun _ _ h => h.next rfl) rfl fun L f wx hL hdep H => congrArg (fun v => Result.ok (Next.value v) wx) (H.x (3, .int .i64 (j : Int)) (by simp)),
        ti_val rfl rfl rfl (fun _ _ h => h.next rfl) rfl fun L f wx hL hdep H => congrArg (fun v => Result.ok (Next.value v) wx) (H.x (0, .slice (some ⟨g, 0, none⟩) n c) (by simp)),
        ti_val rfl rfl rfl (fun _ _ h => h.next rfl) rfl fun L f wx hL hdep H => congrArg (fun v => Result.ok (Next.value v) wx) (H.x (3, .int .i64 (j : Int)) (by simp)),
        ti_val rfl rfl rfl (fun _ _ h => h.next rfl) rfl fun L f wx hL hdep H => (run_indexPt (a := ⟨g, 0, none⟩) (j := (j : Int)) (H.t 4 18 rfl (hdep ⟨4, .data⟩ (by simp) rfl)) (H.t 5 19 rfl (hdep ⟨5, .data⟩ (by simp) rfl)) (by omega) (by omega)).trans (by rw [addr0, Int.toNat_natCast]; rfl),
        ti_val rfl rfl rfl (fun _ _ h => h.next rfl) rfl fun L f wx hL hdep H => by
      have e := H.m.start0 (.inl hL)
      subst e
      exact run_ptAt (p := q) (H.t 6 20 rfl (hdep ⟨6, .data⟩ (by simp) rfl)) HQ.out.1 HQ.out.2,
        ti_val rfl rfl rfl (fun _ _ h => h.next rfl) rfl fun L f wx hL hdep H => congrArg (fun v => Result.ok (Next.value v) wx) (H.x (0, .slice (some ⟨g, 0, none⟩) n c) (by simp)),
        ti_val rfl rfl rfl (fun _ _ h => h.next rfl) rfl fun L f wx hL hdep H => congrArg (fun v => Result.ok (Next.value v) wx) (H.x (2, .int .i64 (k : Int)) (by simp)),
        ti_val rfl rfl rfl (fun _ _ h => h.next rfl) rfl fun L f wx hL hdep H => (run_indexPt (a := ⟨g, 0, none⟩) (j := (k : Int)) (H.t 8 22 rfl (hdep ⟨8, .data⟩ (by simp) rfl)) (H.t 9 23 rfl (hdep ⟨9, .data⟩ (by simp) rfl)) (by omega) (by omega)).trans (by rw [addr0, Int.toNat_natCast]; rfl),
        ti_val rfl rfl rfl (fun _ _ h => h.next rfl) rfl fun L f wx hL hdep H => by
      have e := H.m.start0 (.inr hL)
      subst e
      exact run_ptAt (p := p) (H.t 10 24 rfl (hdep ⟨10, .data⟩ (by simp) rfl)) HP.out.1 HP.out.2,
        ti_val rfl rfl rfl (fun _ _ h => h.next rfl) rfl fun L f wx hL hdep H => (run_indexPt (a := ⟨g, 0, none⟩) (j := (k : Int)) (H.t 0 14 rfl (hdep ⟨0, .data⟩ (by simp) rfl)) (H.t 1 15 rfl (hdep ⟨1, .data⟩ (by simp) rfl)) (by omega) (by omega)).trans (by rw [addr0, Int.toNat_natCast]; rfl),
        ti_store rfl fun L f wx hL hdep H => by
      have e := H.m.start1 hL
      subst e
      exact ⟨_, run_storeRow (H.t 12 26 rfl (hdep ⟨12, .data⟩ (by simp) rfl)) (H.t 7 21 rfl (hdep ⟨7, .data⟩ (by simp) rfl)) HV0.out (by omega), H.m.st13 (hdep ⟨7, .data⟩ (by simp) rfl) (hdep ⟨11, .phase⟩ (by simp) rfl) hL⟩,
        ti_val rfl rfl rfl (fun _ _ h => h.next rfl) rfl fun L f wx hL hdep H => (run_indexPt (a := ⟨g, 0, none⟩) (j := (j : Int)) (H.t 2 16 rfl (hdep ⟨2, .data⟩ (by simp) rfl)) (H.t 3 17 rfl (hdep ⟨3, .data⟩ (by simp) rfl)) (by omega) (by omega)).trans (by rw [addr0, Int.toNat_natCast]; rfl),
        ti_store rfl fun L f wx hL hdep H => by
      have e := H.m.start2 (hdep ⟨13, .chain⟩ (by simp) rfl) hL
      subst e
      exact ⟨_, run_storeRow (H.t 14 27 rfl (hdep ⟨14, .data⟩ (by simp) rfl)) (H.t 11 25 rfl (hdep ⟨11, .data⟩ (by simp) rfl)) HV1.out (by simp; omega), H.m.st15 (hdep ⟨13, .chain⟩ (by simp) rfl)⟩, trivial⟩
      intro L f act w1 hall H ha
      refine hKn _ _ ?_
      have k0 : f 0 = .slice (some ⟨g, 0, none⟩) n c := H.x (0, .slice (some ⟨g, 0, none⟩) n c) (by simp)
      have k2 : f 2 = .int .i64 (k : Int) := H.x (2, .int .i64 (k : Int)) (by simp)
      have k3 : f 3 = .int .i64 (j : Int) := H.x (3, .int .i64 (j : Int)) (by simp)
      have k1 : f 1 = undef := H.x (1, undef) (by simp)
      have k4 : f 4 = .slice (some ⟨g, 0, none⟩) n c := H.x (4, .slice (some ⟨g, 0, none⟩) n c) (by simp)
      have k5 : f 5 = .int .i64 (n : Int) := H.x (5, .int .i64 (n : Int)) (by simp)
      have k6 : f 6 = .int .i64 ((n : Int) - 1) := H.x (6, .int .i64 ((n : Int) - 1)) (by simp)
      have hW := H.m.w2 (hall 15 (by decide))
      have hw := ha.whole
      rw [show ((List.range 28).map f).toArray = #[f 0, f 1, f 2, f 3, f 4, f 5, f 6, f 7, f 8, f 9, f 10, f 11, f 12, f 13, f 14, f 15, f 16, f 17, f 18, f 19, f 20, f 21, f 22, f 23, f 24, f 25, f 26, f 27] from rfl] at hw
      rw [k0, k1, k2, k3, k4, k5, k6] at hw
      subst hw
      subst hW
      clear ha H hall hKn k0 k1 k2 k3 k4 k5 k6 L HV0 HV1 HG HV HS HQ HP HZ
      generalize ((((wr.drew.setCell _ _).setCell _ _).setCell _ _).setCell _ _) = w4 at HV2 HG2 ⊢
      generalize ((((cs.setIfInBounds _ _).setIfInBounds _ _).setIfInBounds _ _).setIfInBounds _ _) = cs4 at HV2 HZ2 HS1
      go_wp2_with fail
      go_roundw
      case rel => exact ⟨k + 1, j - 1, cs4, by omega, by omega, by go_num, by congr 1; omega, HV2, HZ2, HS1, HG2⟩
      case measure => simp [intOf]; omega
    · have HD := hid (HS.out.done HV.out hkj (by omega) HN.out)
      have hltb : decide ((k : Int) < (j : Int)) = false := decide_eq_false (by omega)
      go_wp2_with fail
      go_end0
      exact ⟨⟨_, rfl⟩, HD.out, HG.out, cs, HV.out, HZ.out.2⟩

end Go.Proofs.Ytijkoaggcmgjiaa.Co

/- slices.Clone on points. -/
namespace Go.Proofs.Ytijkoaggcmgjiaa
open Go Go.RowKit
set_option linter.unusedVariables false
set_option linter.unusedSimpArgs false

theorem OwnP.lit0 (w : World) : OwnP (w.alloc (.cells #[] 40)) w.heap.size (.slice (some ⟨w.heap.size, 0, none⟩) 0 0) [] := World.ownsRow_lit w #[] 0 (Nat.le_refl _) (by decide) rfl

/-- append of runs that came in. -/
theorem append_pts {w : World} {B m c : Nat} {A : Option Addr} {v : Value} {xs ys : List P2} (hB : B ≤ w.heap.size) (hown : OwnP w B v xs) (hm : m = ys.length) (hr : Pts w A ys) (hl : xs.length + m ≤ 5000000000) :
    ∃ v' w', (∀ ty, (Builtin.append_ #[36, 36] ty #[v, .slice A m c]).run Try.prog w = .ok v' w') ∧ OwnP w' B v' (xs ++ ys) ∧ Gr v v' w w' := by
  obtain ⟨i0, hi, hz0, hz1, hz2⟩ := info_parts infoPt
  subst hm
  cases A with
  | none =>
    have hy : ys = [] := by
      cases ys with
      | nil => rfl
      | cons y r => obtain ⟨a, h, -⟩ := hr (by simp); cases h
    subst hy
    refine ⟨v, w, fun ty => ?_, by simpa using hown, Gr.refl _ _⟩
    rcases hown.2 with ⟨rfl, h0⟩ | ⟨g, cap, cur, rfl, hbg, hg, hnc, hcm, hcs, htake⟩
    · simp [Builtin.append_, run_underlying Try.underlying36, sizeOf, typeInfo, hi, Builtin.lenOf, Builtin.firstCells]
    · simp [Builtin.append_, run_underlying Try.underlying36, sizeOf, typeInfo, hi, Builtin.lenOf, Builtin.firstCells, hnc, storeCells]
  | some a =>
    have hcells : ∀ j u, (flatP ys)[j]? = some u → w.cell? (a.add j) = some u := fun j u hu => by
      have hj : j < ys.length * 2 := by
        rcases Nat.lt_or_ge j (ys.length * 2) with k | k
        · exact k
        · rw [List.getElem?_eq_none (by rw [flatP_length]; exact k)] at hu; cases hu
      obtain ⟨q, r, rfl, hrr⟩ : ∃ q r, j = q * 2 + r ∧ r < 2 := ⟨j / 2, j % 2, by omega, by omega⟩
      have hq : q < ys.length := by omega
      have h2 := flatP_get ys q r _ (List.getElem?_eq_getElem hq) hrr
      obtain ⟨a', ha, -, hc⟩ := hr (by intro e; subst e; simp at hq)
      cases ha
      have hat := hc q _ (List.getElem?_eq_getElem hq)
      rw [h2] at hu
      rw [← add_add']
      rcases (show r = 0 ∨ r = 1 by omega) with rfl | rfl
      · exact hat.c0.trans hu
      · exact hat.c1.trans hu
    obtain ⟨v', w', h1, h2, h3, h4, h5⟩ := run_append_own_at (P := Try.prog) w B 36 0 40 i0 _ 2 16 Try.underlying36 hi hz0 hz1 hz2 rfl (by decide) v xs.length (flatP xs) hown
      a ys.length c (flatP ys) (flatP_length ys) hcells (fun u hu => flatP_int ys u hu) (by unfold maxLen; omega) (by omega) hB
    refine ⟨v', w', fun ty => h1, ?_, ⟨h3, fun k hk => ?_⟩⟩
    · unfold OwnP
      rw [flatP_append, List.length_append]
      exact h2
    · rcases h5 with h5 | h5
      · exact .inl (h5 ▸ hk)
      · rw [h5] at hk
        have : w.heap.size = k := by simpa using hk
        exact .inr (by omega)

set_option maxHeartbeats 1000000 in
set_option maxRecDepth 100000 in
theorem clone_any (A : Option Addr) (ps : List P2) (n c : Nat) (w : World) (hn : n = ps.length) (hl : n ≤ 5000000000) (hs : Pts w A ps) :
    Calls Try.prog 25 #[.slice A n c] w fun e w' => ∃ v, e = .returned v ∧ OwnP w' w.heap.size v ps ∧ Below w.heap.size w w' := by
  by_cases hA : A.isNone = true
  · obtain rfl : ps = [] := by
      cases ps with
      | nil => rfl
      | cons y r => obtain ⟨a, h, -⟩ := hs (by simp); rw [h] at hA; cases hA
    clear hs hn
    have hq : ∀ w : World, (binOp .eql 36 (.slice A n c) (.slice none 0 0)).run Try.prog w = .ok (.bool true) w := fun w => by rw [Lib.run_eql_slice_nil w _ _ A n c 0 0 Try.underlying36, hA]
    go_enter Try.func25, Try.ntmps25
    go_wp2_with fail
    go_ret
    exact ⟨_, rfl, OwnP.nil _ _, Below.refl _ _⟩
  · obtain ⟨a, rfl⟩ : ∃ a, A = some a := by
      cases A with
      | none => exact absurd rfl hA
      | some a => exact ⟨a, rfl⟩
    clear hA
    have HN := hid hn
    have HS := hid hs
    clear hn hs
    have hq : ∀ w : World, (binOp .eql 36 (.slice (some a) n c) (.slice none 0 0)).run Try.prog w = .ok (.bool false) w := fun w => Lib.run_eql_slice_nil w _ _ (some a) n c 0 0 Try.underlying36
    go_enter Try.func25, Try.ntmps25
    go_upto_region 3 with fail
    rename_i Kn hKn
    refine wp_region_lit ?_
    refine sq_start (n := 8) rfl fun a0 hs0 => ?_
    have ha0 := (((hs0.pin 0 (v := .slice (some a) n c) rfl).pin 2 (v := .slice none 0 0) rfl).pin 4 (v := .bool false) rfl)
    clear hs0
    generalize (fun i => Array.getD _ i undef) = g0 at ha0
    refine sq_val (v := .slice (some ⟨w.heap.size, 0, none⟩) 0 0) ha0 rfl (run_litP0) fun a1 ha1 => ?_
    refine sq_val (v := .slice (some a) n c) ha1 rfl (rfl) fun a2 ha2 => ?_
    obtain ⟨v', w3, h1, h2, h3⟩ := append_pts (B := w.heap.size) (m := n) (c := c) (by simp) (OwnP.lit0 w) HN.out (HS.out.next (below_alloc (Below.refl _ w) _)) (by simpa using hl)
    refine sq_val (v := v') ha2 rfl (run_append rfl rfl (h1 _)) fun a3 ha3 => ?_
    refine sq_val (v := v') ha3 rfl (rfl) fun a4 ha4 => ?_
    refine wpList_nil ?_
    refine hKn _ _ ?_
    obtain ⟨g9, hg9, k0, k2, k4⟩ : ∃ g9, Is a4 8 g9 ∧ g9 0 = .slice (some a) n c ∧ g9 2 = v' ∧ g9 4 = .bool false := ⟨_, ha4, rfl, rfl, rfl⟩
    have hw := hg9.whole
    rw [show ((List.range 8).map g9).toArray = #[g9 0, g9 1, g9 2, g9 3, g9 4, g9 5, g9 6, g9 7] from rfl] at hw
    rw [k0, k2, k4] at hw
    subst hw
    clear hg9 k0 k2 k4
    have HO3 := hid (show OwnP w3 w.heap.size v' ps by simpa using h2)
    have HB3 := hid (show Below w.heap.size w w3 from (Gr.of_below (v := .slice (some ⟨w.heap.size, 0, none⟩) 0 0) (below_alloc (Below.refl _ w) _)).trans h3 |>.below (Nat.le_refl _) (fun k e => by simp [Value.ownBlock] at e; omega))
    clear h1 h2 h3
    clear ha0 ha1 ha2 ha3 ha4 hKn Kn
    go_wp2_with fail
    go_ret
    exact ⟨v', rfl, HO3.out, HB3.out⟩

end Go.Proofs.Ytijkoaggcmgjiaa

/- fill.Fill with the rule EvenOdd (written by r9_fll.py). -/
namespace Go.Proofs.Ytijkoaggcmgjiaa
open Go Go.RowKit
attribute [local go_sem] Oper.semAt_some
set_option linter.unusedVariables false
set_option linter.unusedSimpArgs false

set_option maxRecDepth 100000 in
set_option maxHeartbeats 16000000 in
theorem fill_E (A : Option Addr) (ls : List Ln) (n c : Nat) (w : World) (hn : n = ls.length) (hl : n ≤ maxLen) (hs : Lns w A ls) (hok : lchk ls = 0) (hlen : (edgesL ls).length ≤ 1000000) :
    Calls Try.prog 13 #[.slice A n c, .int .i64 1] w (GivesF true ls w) := by
  obtain ⟨es, rfl, hE⟩ := hs.ext
  have HS := hid hs
  have HE := hid hE
  have HN := hid hn
  have HM := hid hl
  have HLE := hid hlen
  have hne' : n = es.length := by simpa using hn
  have HNE := hid hne'
  clear hs hE hn hlen hne' hl
  go_enter Try.func13, Try.ntmps13
  go_wp2_with fail
  (with_reducible refine (fcheck_any A (es.map LE.ln) n c _ HN.out HM.out HS.out).mono ?_); rintro e w1 ⟨rfl, hb⟩
  rw [hok]
  have HB1 := hid hb
  clear hb
  go_wp2_with fail
  (with_reducible refine (psl_any A es n c _ HNE.out HM.out (HE.out.next HB1.out) HLE.out).mono ?_); rintro e w2 ⟨⟨v0, W, rfl, hown, hperm, hsort⟩, hb⟩
  have HB2 := hid (below_next HB1.out hb)
  have HO0 := hid (hown.mono HB1.out.size)
  have HWP := hid hperm
  have HWS := hid hsort
  have hwl : W.length ≤ 1000000 := by have h1 := hperm.length_eq; have h2 := perL_len (edgesL (es.map LE.ln)); have := HLE.out; omega
  have HPER := hid (show ∀ s ∈ W, perS s = true from fun s hs => by
    have h1 := hperm.mem_iff.1 hs
    unfold perL at h1
    exact (List.mem_filter.1 h1).2)
  have HIN := hid (show ∀ s ∈ W, SlIn s from fun s hs => by
    have h1 := hperm.mem_iff.1 hs
    unfold perL at h1
    obtain ⟨e, he, rfl⟩ := List.mem_map.1 (List.mem_filter.1 h1).1
    have := edges_mem (lok_all (lok_of hok)) e he
    exact slp_in this.1 this.2)
  clear hb hown hperm hsort
  generalize es.map LE.ln = ls at *
  obtain ⟨B, hBe⟩ : ∃ B, B = w.heap.size := ⟨_, rfl⟩
  have HST := hid (show FSt B w (w2.alloc (.cells #[.int .i64 (-8192)] 3)) W w2.heap.size (-8192) v0 (.slice none 0 0) (.slice none 0 0) (.slice none 0 0) 0 [] [] [] by rw [hBe]; exact FSt.start HB2.out HO0.out)
  have HBE := hid hBe
  clear hBe HO0
  go_wp2_with fail
  go_loopw [7, 8, 9, 10, 11] (fun s7 s8 s9 s10 s11 wr => ∃ (y : Int) (b k : Nat) (act : List Sl) (acc : List Rn) (ss : List Stp) (vW vF vA vS : Value), vW = s7 ∧ vF = s8 ∧ vA = s9 ∧ vS = s10 ∧ s11 = .pointer (some ⟨b, 0, none⟩) ∧ -8192 ≤ y ∧ y ≤ 8192 ∧ Hid (FSt B w wr W b y vW vF vA vS k act acc ss) ∧ Hid (Actv W act k y) ∧ Hid (UpTo true ls y acc)) (fun _ _ _ _ s11 wr => (8192 - ptrInt wr s11).toNat)
  case atStart => exact ⟨-8192, _, 0, [], [], [], _, _, _, _, rfl, rfl, rfl, rfl, rfl, by omega, by omega, HST, hid (Actv.start W), hid (UpTo.start _ _)⟩
  case round =>
    clear HST
    obtain ⟨wo, rfl⟩ : ∃ wo, wo = wr := ⟨_, rfl⟩
    obtain ⟨y, b, k, act, acc, ss, vW, vF, vA, vS, rfl, rfl, rfl, rfl, rfl, hy1, hy2, HF, HA, HU⟩ := hrel
    have HBW := hid (show B ≤ wo.heap.size by have := HF.out.be.size; have := HBE.out; omega)
    have hMY := ptrInt_is (HF.out.yv.cell 0)
    have HMY := hid hMY
    clear hMY
    obtain ⟨y0, y1⟩ := HF.out.yv.read1
    by_cases hlt : y < 8192
    · have hal : act.length ≤ 1000000 := by rw [HA.out.e]; exact Nat.le_trans (List.length_filter_le _ _) (by rw [List.length_take]; omega)
      go_wp2_with fail
      (with_reducible refine (delS_any vA act b y B _ HBW.out HF.out.ac hal y0 HF.out.yv.lt HF.out.AY.no).mono ?_); rintro e w3 ⟨vA2, rfl, hown, hgr⟩
      have HF2 := hid (HF.out.activ HBW.out hown hgr)
      have HBW2 := hid (Nat.le_trans HBW.out hgr.size)
      obtain ⟨A2, c2, rfl, -⟩ := hown.is
      clear hown hgr y0 y1 HF HBW
      obtain ⟨y0, y1⟩ := HF2.out.yv.read1
      obtain ⟨Aw, cw, rfl, hcw, hcm, hrw⟩ := HF2.out.wt
      have HRW := hid hrw
      clear hrw
      have HAS := hid (show (delS y act).length = 0 ↔ delS y act = [] from List.length_eq_zero_iff)
      go_upto_if 34 with fail
      go_cut [7, 9, 11] (fun s7 s9 s11 wx => ∃ (y2 : Int) (act2 : List Sl) (vA3 : Value), s7 = .slice Aw (W.length - k) cw ∧ vA3 = s9 ∧ s11 = .pointer (some ⟨b, 0, none⟩) ∧ y ≤ y2 ∧ y2 ≤ 8191 ∧ Hid (FSt B w wx W b y2 (.slice Aw (W.length - k) cw) vF vA3 vS k act2 acc ss) ∧ Hid (Ref W act2 k y2) ∧ Hid (UpTo true ls y2 acc))
      case first =>
        by_cases he : delS y act = []
        · have hz : (((delS y act).length : Int) == 0) = true := by rw [he]; rfl
          have hyv := HF2.out.yv
          by_cases hk : k < W.length
          · have hkz : (((W.length - k : Nat) : Int) == 0) = false := beq_eq_false_iff_ne.2 (by omega)
            have hkd : 0 < (W.drop k).length := by rw [List.length_drop]; omega
            obtain ⟨a, rfl, hal2, hsa⟩ := HRW.out.at_ hkd
            have hd0 : (W.drop k)[0] = W[k] := by rw [List.getElem_drop]; rfl
            rw [hd0, show a.add (0 * 5) = a by unfold Addr.add; rfl] at hsa
            have HJ := hid (HA.out.jump HPER.out HWS.out (by omega) he hk)
            have HTC := hid hsa.c1
            have HTL := hid hal2
            generalize W[k].t.y = t0 at HJ HTC
            clear hsa hal2 hd0 hkd
            go_upto_region 16 with fail
            refine wpIn_wide.1 (grow_tail (F := Fence.wide) (n := 0) 7 (by kernel_rfl) (by kernel_rfl) (by kernel_rfl) ?_)
            simp only [List.take_succ_cons, List.take_zero, List.drop_succ_cons, List.drop_zero]
            refine gq_val (v := .int .i64 y) (fun _ => trivial) rfl (fun w' hw' => run_loadInt rfl ((HF2.out.yv.next hw').cell 0)) ?_
            simp only [Act.put, List.setIfInBounds_toArray, List.set_cons_succ, List.set_cons_zero]
            refine gq_val (v := .slice (some a) (W.length - k) cw) (fun _ => trivial) rfl (fun w' hw' => rfl) ?_
            simp only [Act.put, List.setIfInBounds_toArray, List.set_cons_succ, List.set_cons_zero]
            refine gq_val (v := .pointer (some a)) (fun _ => trivial) rfl (fun w' hw' => run_idxS0 rfl rfl (by omega)) ?_
            simp only [Act.put, List.setIfInBounds_toArray, List.set_cons_succ, List.set_cons_zero]
            refine gq_val (v := .pointer (some a)) (fun _ => trivial) rfl (fun w' hw' => run_fldSl0 rfl) ?_
            simp only [Act.put, List.setIfInBounds_toArray, List.set_cons_succ, List.set_cons_zero]
            refine gq_val (v := .pointer (some ⟨a.block, a.off + 1, none⟩)) (fun _ => trivial) rfl (fun w' hw' => run_fldY rfl) ?_
            simp only [Act.put, List.setIfInBounds_toArray, List.set_cons_succ, List.set_cons_zero]
            refine gq_val (v := .int .i64 t0) (fun _ => trivial) rfl (fun w' hw' => run_loadInt rfl ((hw'.cell (p := ⟨a.block, a.off + 1, none⟩) HTL.out).trans HTC.out)) ?_
            simp only [Act.put, List.setIfInBounds_toArray, List.set_cons_succ, List.set_cons_zero]
            refine gq_val (v := .int .i64 (max y t0)) (fun _ => trivial) rfl (fun w' hw' => run_max2 rfl rfl) ?_
            simp only [Act.put, List.setIfInBounds_toArray, List.set_cons_succ, List.set_cons_zero]
            refine wpQuietIn_nil ?_
            rintro X4 hb4
            have HF4 := hid (HF2.out.next HBW2.out hb4)
            clear hb4 HF2 hyv y0 y1
            obtain ⟨y0, y1⟩ := HF4.out.yv.read1
            gi_wp2
            go_meet
            exact ⟨max y t0, delS y act, _, rfl, rfl, rfl, by omega, HJ.out.2.1, hid (HF4.out.setY _), hid (by rw [he]; exact HJ.out.1), hid (HU.out.skip hy1 (by omega) fun y' h1 h2 _ => hits_nil HWP.out (HJ.out.2.2 y' h1 h2))⟩
          · have hkz : (((W.length - k : Nat) : Int) == 0) = true := by simp; omega
            have HOV := hid (HA.out.over he (by omega))
            go_wp2_with fail
            go_ret2
            exact ⟨⟨vF, acc, rfl, (HU.out.skip (y2 := 8192) hy1 (by omega) fun y' h1 h2 _ => hits_nil HWP.out (HOV.out y' h1)).whole (Int.le_refl _), HBE.out ▸ HF2.out.fl⟩, HBE.out ▸ HF2.out.be⟩
        · have hz : (((delS y act).length : Int) == 0) = false := beq_eq_false_iff_ne.2 (by have : (delS y act).length ≠ 0 := fun e => he (HAS.out.1 e); omega)
          go_wp2_with fail
          go_meet
          exact ⟨y, delS y act, _, rfl, rfl, rfl, Int.le_refl _, by omega, HF2, hid (HA.out.ref HPER.out), HU⟩
      case rest =>
        clear HF2 HA HU HRW HAS y0 y1 HBW2
        obtain ⟨y2, act2, vA3, rfl, rfl, rfl, hy3, hy4, HF2, HR, HU⟩ := hcut
        have HBW3 := hid (show B ≤ wc.heap.size by have := HF2.out.be.size; have := HBE.out; omega)
        go_wp2_with fail
        go_loopw [7, 9] (fun s7 s9 wr => ∃ (k2 : Nat) (act3 : List Sl) (vW3 vA4 : Value), vW3 = s7 ∧ vA4 = s9 ∧ Hid (FSt B w wr W b y2 vW3 vF vA4 vS k2 act3 acc ss) ∧ Hid (Ref W act3 k2 y2)) (fun s7 _ _ => lenV s7)
        case atStart => exact ⟨k, act2, _, _, rfl, rfl, HF2, HR⟩
        case round =>
          obtain ⟨wi, rfl⟩ : ∃ wi, wi = wr := ⟨_, rfl⟩
          clear HF2 HR HBW3
          obtain ⟨k2, act3, vW3, vA4, rfl, rfl, HF3, HR3⟩ := hrel
          have HBW3 := hid (show B ≤ wi.heap.size by have := HF3.out.be.size; have := HBE.out; omega)
          obtain ⟨Aw2, cw2, rfl, hcw2, hcm2, hrw2⟩ := HF3.out.wt
          have HRW := hid hrw2
          clear hrw2
          obtain ⟨GO, hGO⟩ : ∃ GO : Bool, GO = decide (∃ h : k2 < W.length, W[k2].t.y ≤ y2) := ⟨_, rfl⟩
          have HGO := hid hGO
          clear hGO
          go_upto_region 17 with fail
          go_cut [56] (fun s56 wx => s56 = .bool GO ∧ Hid (Below wi.heap.size wi wx))
          case first =>
            by_cases hk : k2 < W.length
            · have hkd : 0 < (W.drop k2).length := by rw [List.length_drop]; omega
              obtain ⟨a, rfl, hal2, hsa⟩ := HRW.out.at_ hkd
              have hd0 : (W.drop k2)[0] = W[k2] := by rw [List.getElem_drop]; rfl
              rw [hd0, show a.add (0 * 5) = a by unfold Addr.add; rfl] at hsa
              have HG2 := hid (show GO = decide (W[k2].t.y ≤ y2) by rw [HGO.out]; exact decide_eq_decide.2 ⟨fun h => h.2, fun h => ⟨hk, h⟩⟩)
              have HTC := hid hsa.c1
              have HTL := hid hal2
              generalize W[k2] = t at HTC HG2
              clear hsa hal2 hd0 hkd
              by_cases hle : t.t.y ≤ y2
              · obtain rfl : GO = true := by rw [HG2.out]; exact decide_eq_true hle
                refine wpIn_wide.1 (grow_round (F := Fence.wide) (n := 0) (by kernel_rfl) (by kernel_rfl) (by kernel_rfl) ?_)
                refine gq_val (v := .slice (some a) (W.length - k2) cw2) (fun _ => trivial) rfl (fun w' hw' => rfl) ?_
                simp only [Act.put, List.setIfInBounds_toArray, List.set_cons_succ, List.set_cons_zero]
                refine gq_val (v := .int .i64 ((W.length - k2 : Nat) : Int)) (fun _ => trivial) rfl (fun w' hw' => run_lenS rfl) ?_
                simp only [Act.put, List.setIfInBounds_toArray, List.set_cons_succ, List.set_cons_zero]
                refine gq_val (v := .bool true) (fun _ => trivial) rfl (fun w' hw' => run_gtrT rfl rfl (by omega)) ?_
                simp only [Act.put, List.setIfInBounds_toArray, List.set_cons_succ, List.set_cons_zero]
                refine gq_val (v := .bool true) (fun _ => trivial) rfl (fun w' hw' => rfl) ?_
                simp only [Act.put, List.setIfInBounds_toArray, List.set_cons_succ, List.set_cons_zero]
                refine gq_val (v := .slice (some a) (W.length - k2) cw2) (fun _ => trivial) rfl (fun w' hw' => rfl) ?_
                simp only [Act.put, List.setIfInBounds_toArray, List.set_cons_succ, List.set_cons_zero]
                refine gq_val (v := .pointer (some a)) (fun _ => trivial) rfl (fun w' hw' => run_idxS0 rfl rfl (by omega)) ?_
                simp only [Act.put, List.setIfInBounds_toArray, List.set_cons_succ, List.set_cons_zero]
                refine gq_val (v := .pointer (some a)) (fun _ => trivial) rfl (fun w' hw' => run_fldSl0 rfl) ?_
                simp only [Act.put, List.setIfInBounds_toArray, List.set_cons_succ, List.set_cons_zero]
                refine gq_val (v := .pointer (some ⟨a.block, a.off + 1, none⟩)) (fun _ => trivial) rfl (fun w' hw' => run_fldY rfl) ?_
                simp only [Act.put, List.setIfInBounds_toArray, List.set_cons_succ, List.set_cons_zero]
                refine gq_val (v := .int .i64 t.t.y) (fun _ => trivial) rfl (fun w' hw' => run_loadInt rfl ((hw'.cell (p := ⟨a.block, a.off + 1, none⟩) HTL.out).trans HTC.out)) ?_
                simp only [Act.put, List.setIfInBounds_toArray, List.set_cons_succ, List.set_cons_zero]
                refine gq_val (v := .int .i64 y2) (fun _ => trivial) rfl (fun w' hw' => run_loadInt rfl ((HF3.out.yv.next hw').cell 0)) ?_
                simp only [Act.put, List.setIfInBounds_toArray, List.set_cons_succ, List.set_cons_zero]
                refine gq_val (v := .bool true) (fun _ => trivial) rfl (fun w' hw' => run_leqT rfl rfl hle) ?_
                simp only [Act.put, List.setIfInBounds_toArray, List.set_cons_succ, List.set_cons_zero]
                refine gq_val (v := .bool true) (fun _ => trivial) rfl (fun w' hw' => rfl) ?_
                simp only [Act.put, List.setIfInBounds_toArray, List.set_cons_succ, List.set_cons_zero]
                refine wpQuietIn_nil ?_
                rintro X4 hb4
                go_wp2_with fail
                go_meet
                exact ⟨rfl, hid hb4⟩
              · obtain rfl : GO = false := by rw [HG2.out]; exact decide_eq_false hle
                refine wpIn_wide.1 (grow_round (F := Fence.wide) (n := 0) (by kernel_rfl) (by kernel_rfl) (by kernel_rfl) ?_)
                refine gq_val (v := .slice (some a) (W.length - k2) cw2) (fun _ => trivial) rfl (fun w' hw' => rfl) ?_
                simp only [Act.put, List.setIfInBounds_toArray, List.set_cons_succ, List.set_cons_zero]
                refine gq_val (v := .int .i64 ((W.length - k2 : Nat) : Int)) (fun _ => trivial) rfl (fun w' hw' => run_lenS rfl) ?_
                simp only [Act.put, List.setIfInBounds_toArray, List.set_cons_succ, List.set_cons_zero]
                refine gq_val (v := .bool true) (fun _ => trivial) rfl (fun w' hw' => run_gtrT rfl rfl (by omega)) ?_
                simp only [Act.put, List.setIfInBounds_toArray, List.set_cons_succ, List.set_cons_zero]
                refine gq_val (v := .bool true) (fun _ => trivial) rfl (fun w' hw' => rfl) ?_
                simp only [Act.put, List.setIfInBounds_toArray, List.set_cons_succ, List.set_cons_zero]
                refine gq_val (v := .slice (some a) (W.length - k2) cw2) (fun _ => trivial) rfl (fun w' hw' => rfl) ?_
                simp only [Act.put, List.setIfInBounds_toArray, List.set_cons_succ, List.set_cons_zero]
                refine gq_val (v := .pointer (some a)) (fun _ => trivial) rfl (fun w' hw' => run_idxS0 rfl rfl (by omega)) ?_
                simp only [Act.put, List.setIfInBounds_toArray, List.set_cons_succ, List.set_cons_zero]
                refine gq_val (v := .pointer (some a)) (fun _ => trivial) rfl (fun w' hw' => run_fldSl0 rfl) ?_
                simp only [Act.put, List.setIfInBounds_toArray, List.set_cons_succ, List.set_cons_zero]
                refine gq_val (v := .pointer (some ⟨a.block, a.off + 1, none⟩)) (fun _ => trivial) rfl (fun w' hw' => run_fldY rfl) ?_
                simp only [Act.put, List.setIfInBounds_toArray, List.set_cons_succ, List.set_cons_zero]
                refine gq_val (v := .int .i64 t.t.y) (fun _ => trivial) rfl (fun w' hw' => run_loadInt rfl ((hw'.cell (p := ⟨a.block, a.off + 1, none⟩) HTL.out).trans HTC.out)) ?_
                simp only [Act.put, List.setIfInBounds_toArray, List.set_cons_succ, List.set_cons_zero]
                refine gq_val (v := .int .i64 y2) (fun _ => trivial) rfl (fun w' hw' => run_loadInt rfl ((HF3.out.yv.next hw').cell 0)) ?_
                simp only [Act.put, List.setIfInBounds_toArray, List.set_cons_succ, List.set_cons_zero]
                refine gq_val (v := .bool false) (fun _ => trivial) rfl (fun w' hw' => run_leqF rfl rfl hle) ?_
                simp only [Act.put, List.setIfInBounds_toArray, List.set_cons_succ, List.set_cons_zero]
                refine gq_val (v := .bool false) (fun _ => trivial) rfl (fun w' hw' => rfl) ?_
                simp only [Act.put, List.setIfInBounds_toArray, List.set_cons_succ, List.set_cons_zero]
                refine wpQuietIn_nil ?_
                rintro X4 hb4
                go_wp2_with fail
                go_meet
                exact ⟨rfl, hid hb4⟩
            · obtain rfl : GO = false := by rw [HGO.out]; exact decide_eq_false fun h => hk h.1
              refine wpIn_wide.1 (grow_round (F := Fence.wide) (n := 0) (by kernel_rfl) (by kernel_rfl) (by kernel_rfl) ?_)
              refine gq_val (v := .slice Aw2 (W.length - k2) cw2) (fun _ => trivial) rfl (fun w' hw' => rfl) ?_
              simp only [Act.put, List.setIfInBounds_toArray, List.set_cons_succ, List.set_cons_zero]
              refine gq_val (v := .int .i64 ((W.length - k2 : Nat) : Int)) (fun _ => trivial) rfl (fun w' hw' => run_lenS rfl) ?_
              simp only [Act.put, List.setIfInBounds_toArray, List.set_cons_succ, List.set_cons_zero]
              refine gq_val (v := .bool false) (fun _ => trivial) rfl (fun w' hw' => run_gtrF rfl rfl (by omega)) ?_
              simp only [Act.put, List.setIfInBounds_toArray, List.set_cons_succ, List.set_cons_zero]
              refine gq_val (v := .bool false) (fun _ => trivial) rfl (fun w' hw' => rfl) ?_
              simp only [Act.put, List.setIfInBounds_toArray, List.set_cons_succ, List.set_cons_zero]
              refine gq_skip (fun _ => trivial) rfl ?_
              simp only [Act.put, List.setIfInBounds_toArray, List.set_cons_succ, List.set_cons_zero]
              refine gq_skip (fun _ => trivial) rfl ?_
              simp only [Act.put, List.setIfInBounds_toArray, List.set_cons_succ, List.set_cons_zero]
              refine gq_skip (fun _ => trivial) rfl ?_
              simp only [Act.put, List.setIfInBounds_toArray, List.set_cons_succ, List.set_cons_zero]
              refine gq_skip (fun _ => trivial) rfl ?_
              simp only [Act.put, List.setIfInBounds_toArray, List.set_cons_succ, List.set_cons_zero]
              refine gq_skip (fun _ => trivial) rfl ?_
              simp only [Act.put, List.setIfInBounds_toArray, List.set_cons_succ, List.set_cons_zero]
              refine gq_skip (fun _ => trivial) rfl ?_
              simp only [Act.put, List.setIfInBounds_toArray, List.set_cons_succ, List.set_cons_zero]
              refine gq_skip (fun _ => trivial) rfl ?_
              simp only [Act.put, List.setIfInBounds_toArray, List.set_cons_succ, List.set_cons_zero]
              refine gq_val (v := .bool false) (fun _ => trivial) rfl (fun w' hw' => rfl) ?_
              simp only [Act.put, List.setIfInBounds_toArray, List.set_cons_succ, List.set_cons_zero]
              refine wpQuietIn_nil ?_
              rintro X4 hb4
              go_wp2_with fail
              go_meet
              exact ⟨rfl, hid hb4⟩
          case rest =>
            obtain ⟨rfl, HBC⟩ := hcut
            have HF4 := hid (HF3.out.next HBW3.out HBC.out)
            have HRW2 := hid (HRW.out.next HBC.out)
            have HBW4 := hid (show B ≤ wc.heap.size from Nat.le_trans HBW3.out HBC.out.size)
            clear HF3 HRW HBW3
            cases GO with
            | true =>
              obtain ⟨hk, hle⟩ := of_decide_eq_true HGO.out.symm
              have hkd : 0 < (W.drop k2).length := by rw [List.length_drop]; omega
              obtain ⟨a, rfl, hal2, hsa⟩ := HRW2.out.at_ hkd
              have hd0 : (W.drop k2)[0] = W[k2] := by rw [List.getElem_drop]; rfl
              rw [hd0, show a.add (0 * 5) = a by unfold Addr.add; rfl] at hsa
              have HR4 := hid (HR3.out.more hk hle)
              have hal3 : act3.length ≤ 5000000000 := by rw [HR3.out.e]; exact Nat.le_trans (List.length_filter_le _ _) (by rw [List.length_take]; omega)
              have HAL3 := hid hal3
              have HLK := hid hk
              generalize W[k2] = t at hsa HR4
              obtain ⟨c0, c1, c2', c3, c4⟩ := hsa
              obtain ⟨m, hm⟩ : ∃ m, m = W.length - k2 := ⟨_, rfl⟩
              have HM2 := hid hm
              rw [← hm] at hcw2
              have hm0 : 0 < m := by omega
              have hm1 : (1 : Int) ≤ (m : Int) := by omega
              have hm2 : (m : Int) ≤ (cw2 : Int) := by omega
              unfold maxLen at hcm2
              have hc0 : (0 : Int) < (m : Int) := by omega
              clear hd0 hkd hle hk hal3 hal2 HR3
              rw [← hm]
              go_wp2_with (at_builtin; refine wpList_append_Sl (B := B) (xs := act3) (s := t) rfl _ _ rfl HBW4.out rfl rfl HF4.out.ac HAL3.out ?_)
              intro v5 w5 hown hgr
              have HF5 := hid (HF4.out.activ HBW4.out hown hgr)
              have HF6 := hid (HF5.out.wait HLK.out a rfl (W.length - k2 - 1) rfl)
              clear hown hgr HF4 HF5 c0 c1 c2' c3 c4
              by_cases hc1 : cw2 = 1
              · rw [if_pos hc1] at HF6
                subst hc1
                go_wp2_with fail
                go_roundw
                case rel => exact ⟨k2 + 1, act3 ++ [t], _, _, rfl, rfl, HF6, HR4⟩
                case measure => show W.length - k2 - 1 < W.length - k2; have := HLK.out; omega
              · rw [if_neg hc1] at HF6
                go_wp2_with fail
                go_roundw
                case rel => exact ⟨k2 + 1, act3 ++ [t], _, _, rfl, rfl, HF6, HR4⟩
                case measure => show W.length - k2 - 1 < W.length - k2; have := HLK.out; omega
            | false =>
              have HLF := hid (Ref.left HWS.out (show W.length ≤ k2 ∨ ∃ h : k2 < W.length, y2 < W[k2].t.y from by
                by_cases hk : k2 < W.length
                · refine .inr ⟨hk, ?_⟩
                  have := of_decide_eq_false HGO.out.symm
                  rcases Int.lt_or_le y2 W[k2].t.y with h | h
                  · exact h
                  · exact absurd ⟨hk, h⟩ this
                · exact .inl (by omega)))
              have HDN := hid (HR3.out.done HLF.out)
              have HPH := hid (show act3.Perm (hits (edgesL ls) y2) by have := hits_perm HWP.out y2; rwa [HDN.out.1] at this)
              obtain ⟨AS, cS, rfl, -⟩ := HF4.out.st.is
              obtain ⟨A4, c4, rfl, hra⟩ := HF4.out.ac.is
              have HRA := hid hra
              have HO0 := hid HF4.out.st.zero
              have hlm := HR3.out.e
              have hal3 : act3.length ≤ 1000000 := by rw [hlm]; exact Nat.le_trans (List.length_filter_le _ _) (by rw [List.length_take]; omega)
              have HAL3 := hid hal3
              have HHX := hid (show ∀ s ∈ act3, SlIn s ∧ s.hit y2 = true from fun s hs => by
                rw [← HDN.out.1] at hs
                have := List.mem_filter.1 hs
                exact ⟨HIN.out s this.1, this.2⟩)
              clear hra hlm hal3 HGO HLF HRW2 hcw2 hcm2
              go_upto_region 20 with fail
              refine wpIn_wide.1 (grow_tail (F := Fence.wide) (n := 0) 4 (by kernel_rfl) (by kernel_rfl) (by kernel_rfl) ?_)
              simp only [List.take_succ_cons, List.take_zero, List.drop_succ_cons, List.drop_zero]
              refine gq_val (v := .slice AS ss.length cS) (fun _ => trivial) rfl (fun w' hw' => rfl) ?_
              simp only [Act.put, List.setIfInBounds_toArray, List.set_cons_succ, List.set_cons_zero]
              refine gq_val (v := .slice AS 0 cS) (fun _ => trivial) rfl (fun w' hw' => run_sl0T rfl rfl) ?_
              simp only [Act.put, List.setIfInBounds_toArray, List.set_cons_succ, List.set_cons_zero]
              refine gq_val (v := .slice A4 act3.length c4) (fun _ => trivial) rfl (fun w' hw' => rfl) ?_
              simp only [Act.put, List.setIfInBounds_toArray, List.set_cons_succ, List.set_cons_zero]
              refine gq_val (v := .int .i64 y2) (fun _ => trivial) rfl (fun w' hw' => run_loadInt rfl ((HF4.out.yv.next hw').cell 0)) ?_
              simp only [Act.put, List.setIfInBounds_toArray, List.set_cons_succ, List.set_cons_zero]
              refine wpQuietIn_nil ?_
              rintro X4 hb4
              have HF5 := hid (HF4.out.next HBW4.out hb4)
              have HO5 := hid (HO0.out.next hb4)
              have HRA5 := hid (HRA.out.next hb4)
              have HBW5 := hid (Nat.le_trans HBW4.out hb4.size)
              clear hb4 HF4 HO0 HRA HBW4
              gi_wp2_with fail
              refine ⟨trivial, rfl, ?_⟩
              (refine (callsIn_wide.2 (stepsOf_any (.slice AS 0 cS) A4 act3.length c4 act3 y2 B X4 HBW5.out HO5.out rfl HAL3.out HRA5.out (fun a e h => HF5.out.AS _ (by subst e; rfl) ((ob0 AS ss.length 0 cS).trans h)) HHX.out)).mono ?_); rintro e w5 ⟨val, qs, rfl, hperm, hpw, hown, hgr⟩
              have HF6 := hid (HF5.out.step HBW5.out (ob0 AS 0 ss.length cS) hown hgr)
              have HBW6 := hid (Nat.le_trans HBW5.out hgr.size)
              have HQP := hid hperm
              have HQW := hid hpw
              obtain ⟨A6, c6, rfl, hrq⟩ := hown.is
              have HRQ := hid hrq
              have hql : qs.length ≤ 1000000 := by have := hperm.length_eq; rw [List.length_map] at this; have := HAL3.out; omega
              have HQL := hid hql
              have HQD := hid (show ∀ s ∈ qs, -1 ≤ s.d ∧ s.d ≤ 1 from fun s hs => by
                obtain ⟨t, ht, rfl⟩ := List.mem_map.1 (hperm.mem_iff.1 hs)
                exact (HHX.out t ht).1.d)
              clear hperm hpw hown hgr hrq hql HF5 HO5 HRA5 HBW5
              obtain ⟨y0, y1⟩ := HF6.out.yv.read1
              gi_wp2
              go_wp2_with fail
              (with_reducible refine (appendRow_any vF A6 qs.length c6 qs y2 1 true acc B w5 HBW6.out HF6.out.fl (by have := chk_len HU.out.ok; omega) rfl HQL.out HRQ.out HF6.out.FS.row HQD.out rfl).mono ?_); rintro e w6 ⟨vF2, rfl, hown, hgr⟩
              have HF7 := hid (HF6.out.fill HBW6.out hown hgr)
              have HBW7 := hid (Nat.le_trans HBW6.out hgr.size)
              have HU2 := hid (HU.out.row (y := y2) ⟨by omega, hy4⟩ HPH.out HQP.out HQW.out)
              clear hown hgr HF6 HBW6 y0 y1
              obtain ⟨y0, y1⟩ := HF7.out.yv.read1
              have HF8 := hid (HF7.out.newY HBW7.out (y2 + 1))
              go_wp2_with fail
              go_roundw
              case rel => exact ⟨y2 + 1, _, k2, act3, _, qs, _, _, _, _, rfl, rfl, rfl, rfl, rfl, by omega, by omega, HF8, hid HDN.out.2, HU2⟩
              case measure =>
                rw [HMY.out, ptrInt_is (z := y2 + 1) (HF8.out.yv.cell 0)]
                omega
    · have hy8 : y = 8192 := by omega
      subst hy8
      go_wp2_with fail
      go_ret2
      exact ⟨⟨vF, acc, rfl, HU.out.whole (Int.le_refl _), HBE.out ▸ HF.out.fl⟩, HBE.out ▸ HF.out.be⟩
end Go.Proofs.Ytijkoaggcmgjiaa

/- Lines that are traversed backwards: their edges, windings, area; slices.Reverse on points. -/
namespace Go.Proofs.Ytijkoaggcmgjiaa
open Go Go.RowKit
set_option linter.unusedVariables false
set_option linter.unusedSimpArgs false

/-! ### edges -/
def swE (e : Ed) : Ed := (e.2, e.1)
def adj : List P2 → List Ed
  | [] => []
  | [_] => []
  | p :: q :: t => (p, q) :: adj (q :: t)
theorem adj_F (f : P2) : ∀ (t : List P2) (p : P2), edgF f p t = adj (p :: (t ++ [f]))
  | [], p => rfl
  | q :: t, p => by
    show (p, q) :: edgF f q t = (p, q) :: adj (q :: (t ++ [f]))
    rw [adj_F f t q]
theorem adj_snoc (a b : P2) : ∀ l : List P2, adj (l ++ [a, b]) = adj (l ++ [a]) ++ [(a, b)]
  | [] => rfl
  | [p] => rfl
  | p :: q :: t => by
    show (p, q) :: adj (q :: t ++ [a, b]) = (p, q) :: adj (q :: t ++ [a]) ++ [(a, b)]
    rw [adj_snoc a b (q :: t)]
    rfl
theorem adj_rev : ∀ l : List P2, adj l.reverse = ((adj l).map swE).reverse
  | [] => rfl
  | [p] => rfl
  | p :: q :: t => by
    have h1 : (adj (p :: q :: t)).map swE = swE (p, q) :: (adj (q :: t)).map swE := rfl
    rw [h1, List.reverse_cons, List.reverse_cons, List.append_assoc, List.reverse_cons, ← adj_rev (q :: t), List.reverse_cons]
    exact adj_snoc q p t.reverse
theorem sumI_reverse (l : List Int) : sumI l.reverse = sumI l := by
  induction l with
  | nil => rfl
  | cons x t ih =>
    rw [List.reverse_cons, sumI_append, ih, sumI_cons]
    simp [sumI]
    omega
theorem edgs_rev (f : Ed → Int) (ps : List P2) : sumI ((edgs ps.reverse).map f) = sumI ((edgs ps).map fun e => f (swE e)) := by
  cases ps with
  | nil => rfl
  | cons p t =>
    have h0 : edgs (p :: t) = adj (p :: (t ++ [p])) := adj_F p t p
    have h1 : sumI ((edgs (p :: t)).map fun e => f (swE e)) = sumI ((adj (p :: (t.reverse ++ [p]))).map f) := by
      have e : (p :: (t ++ [p])).reverse = p :: (t.reverse ++ [p]) := by simp
      rw [h0, ← e, adj_rev, List.map_reverse, sumI_reverse, List.map_map]
      rfl
    rw [h1, List.reverse_cons]
    cases hr : t.reverse with
    | nil => rfl
    | cons q r =>
      have h2 : edgs (q :: r ++ [p]) = adj (q :: (r ++ [p, q])) := by
        have := adj_F q (r ++ [p]) q
        rw [List.append_assoc] at this
        exact this
      have h3 : adj (q :: (r ++ [p, q])) = adj (q :: (r ++ [p])) ++ [(p, q)] := adj_snoc p q (q :: r)
      rw [h2, h3, List.map_append, sumI_append]
      show _ = sumI (f (p, q) :: (adj (q :: (r ++ [p]))).map f)
      rw [sumI_cons]
      simp [sumI]
      omega
def revL (l : Ln) : Ln := ⟨l.ps.reverse, l.cl⟩
theorem edgesL_rev (f : Ed → Int) : ∀ ls : List Ln, sumI ((edgesL (ls.map revL)).map f) = sumI ((edgesL ls).map fun e => f (swE e))
  | [] => rfl
  | l :: r => by
    have h1 : edgesL ((l :: r).map revL) = edgs l.ps.reverse ++ edgesL (r.map revL) := by unfold edgesL; rw [List.map_cons, List.flatMap_cons]; rfl
    have h2 : edgesL (l :: r) = edgs l.ps ++ edgesL r := by unfold edgesL; rw [List.flatMap_cons]
    rw [h1, h2, List.map_append, List.map_append, sumI_append, sumI_append, edgs_rev, edgesL_rev f r]
theorem sumI_neg {α : Type} (f : α → Int) (l : List α) : sumI (l.map fun x => -f x) = -sumI (l.map f) := by
  induction l with
  | nil => rfl
  | cons x t ih => rw [List.map_cons, sumI_cons, ih, List.map_cons, sumI_cons]; omega
theorem edW_sw (e : Ed) (x y : Int) : edW (swE e) x y = -edW e x y := by
  obtain ⟨p, q⟩ := e
  unfold edW swE
  rcases Int.lt_trichotomy p.y q.y with h | h | h
  · have h1 : slp p q = ⟨p, q, 1⟩ := by unfold slp; rw [if_pos (by omega)]
    have h2 : slp q p = ⟨p, q, -1⟩ := by unfold slp; rw [if_neg (by omega)]
    rw [h1, h2]
    unfold Sl.w
    show (if (Sl.hit ⟨p, q, 1⟩ y && decide (Sl.cell ⟨p, q, 1⟩ y ≤ x)) = true then (-1 : Int) else 0) = -(if (Sl.hit ⟨p, q, 1⟩ y && decide (Sl.cell ⟨p, q, 1⟩ y ≤ x)) = true then (1 : Int) else 0)
    split <;> simp
  · have h1 : slp p q = ⟨p, q, 1⟩ := by unfold slp; rw [if_pos (by omega)]
    have h2 : slp q p = ⟨q, p, 1⟩ := by unfold slp; rw [if_pos (by omega)]
    rw [h1, h2]
    have k1 : Sl.hit ⟨p, q, 1⟩ y = false := decide_eq_false (by show ¬ (p.y ≤ y ∧ y < q.y); omega)
    have k2 : Sl.hit ⟨q, p, 1⟩ y = false := decide_eq_false (by show ¬ (q.y ≤ y ∧ y < p.y); omega)
    unfold Sl.w
    rw [k1, k2]
    rfl
  · have h1 : slp p q = ⟨q, p, -1⟩ := by unfold slp; rw [if_neg (by omega)]
    have h2 : slp q p = ⟨q, p, 1⟩ := by unfold slp; rw [if_pos (by omega)]
    rw [h1, h2]
    unfold Sl.w
    show (if (Sl.hit ⟨q, p, 1⟩ y && decide (Sl.cell ⟨q, p, 1⟩ y ≤ x)) = true then (1 : Int) else 0) = -(if (Sl.hit ⟨q, p, 1⟩ y && decide (Sl.cell ⟨q, p, 1⟩ y ≤ x)) = true then (-1 : Int) else 0)
    split <;> simp
theorem wind_rev (ls : List Ln) (x y : Int) : wind (ls.map revL) x y = -wind ls x y := by
  unfold wind
  rw [edgesL_rev (fun e => edW e x y), ← sumI_neg]
  exact sumI_congr fun e _ => edW_sw e x y
theorem area2_rev (ls : List Ln) : area2 (ls.map revL) = -area2 ls := by
  unfold area2
  rw [edgesL_rev edA, ← sumI_neg]
  exact sumI_congr fun e _ => by unfold edA swE; simp only; omega
theorem isF_neg (odd : Bool) (n : Int) : isF odd (-n) = isF odd n := by
  cases odd
  · unfold isF
    rw [Bool.eq_iff_iff]
    simp
  · unfold isF
    rw [Int.neg_tmod, Bool.eq_iff_iff]
    simp
theorem Filled.rev {odd : Bool} {ls : List Ln} {rs : List Rn} (h : Filled odd ls rs) : Filled odd (ls.map revL) rs :=
  ⟨h.1, fun x y => by rw [h.2, wind_rev, isF_neg]⟩

theorem rev_ok {ls : List Ln} (h : lchk ls = 0) : lchk (ls.map revL) = 0 := by
  refine lchk_t ?_
  have h1 := lok_of h
  unfold lok at h1 ⊢
  rw [List.all_map]
  refine List.all_eq_true.2 fun l hl => ?_
  have := List.all_eq_true.1 h1 l hl
  show okPs l.ps.reverse = true
  unfold okPs at this ⊢
  rw [List.all_reverse]
  exact this
theorem rev_edges : ∀ ls : List Ln, (edgesL (ls.map revL)).length = (edgesL ls).length
  | [] => rfl
  | l :: r => by
    have h1 : edgesL ((l :: r).map revL) = edgs l.ps.reverse ++ edgesL (r.map revL) := by unfold edgesL; rw [List.map_cons, List.flatMap_cons]; rfl
    have h2 : edgesL (l :: r) = edgs l.ps ++ edgesL r := by unfold edgesL; rw [List.flatMap_cons]
    rw [h1, h2, List.length_append, List.length_append, edgs_len, edgs_len, List.length_reverse, rev_edges r]
theorem area_in {m : Int} (hm : 0 ≤ m ∧ m ≤ 32767) {ls : List Ln} (hin : ∀ l ∈ ls, ∀ p ∈ l.ps, (-m ≤ p.x ∧ p.x ≤ m) ∧ -m ≤ p.y ∧ p.y ≤ m) (hl : (edgesL ls).length ≤ 32) : areaF (edgesL ls) = area2 ls := by
  have hE := edges_mem (Q := fun p => (-m ≤ p.x ∧ p.x ≤ m) ∧ -m ≤ p.y ∧ p.y ≤ m) hin
  have hmm : 0 ≤ m * m := Int.mul_nonneg hm.1 hm.1
  have hmm2 : m * m ≤ 32767 * 32767 := Int.mul_le_mul hm.2 hm.2 hm.1 (by decide)
  have hb : 2 * (m * m) * ((edgesL ls).length : Int) ≤ 2 * (m * m) * 32 := Int.mul_le_mul_of_nonneg_left (by omega) (by omega)
  have h := areaF_is (M := 2 * (m * m)) ⟨by omega, by omega⟩ (fun e he => edA_bd (hE e he).1 (hE e he).2) (by omega) _ (Nat.le_refl (edgesL ls).length)
  rw [List.take_length] at h
  exact h.1
theorem rev_in {m : Int} {ls : List Ln} (hin : ∀ l ∈ ls, ∀ p ∈ l.ps, (-m ≤ p.x ∧ p.x ≤ m) ∧ -m ≤ p.y ∧ p.y ≤ m) : ∀ l ∈ ls.map revL, ∀ p ∈ l.ps, (-m ≤ p.x ∧ p.x ≤ m) ∧ -m ≤ p.y ∧ p.y ≤ m := fun l hl p hp => by
  obtain ⟨l0, h0, rfl⟩ := List.mem_map.1 hl
  exact hin l0 h0 p (List.mem_reverse.1 hp)

/-! ### Reverse -/
def c2p (p : P2) : Co.P2 := ⟨p.x, p.y⟩
theorem own_var {w : World} {B g n c : Nat} {xs : List P2} (h : OwnP w B (.slice (some ⟨g, 0, none⟩) n c) xs) : n = xs.length ∧ B ≤ g ∧ ∃ cur, Var w g cur 40 ∧ cur.size = c * 2 ∧ n ≤ c ∧ c ≤ maxLen ∧ cur.toList.take (n * 2) = flatP xs := by
  rcases h.2 with ⟨h1, h2⟩ | ⟨g', cap, cur, h1, h3, h4, h5, h6, h7, h8⟩
  · cases h1
  · injection h1 with e1 e2 e3
    injection e1 with e1
    injection e1 with e1
    subst e1 e2 e3
    exact ⟨rfl, h3, cur, h4, h7, h5, h6, h8⟩
theorem krev_any (v : Value) (B : Nat) (xs : List P2) (w : World) (ho : OwnP w B v xs) (hm : xs.length ≤ 1000000) :
    Calls Try.prog 26 #[v] w fun e w' => (∃ u, e = .returned u) ∧ OwnP w' B v xs.reverse ∧ Gr v v w w' := by
  by_cases h0 : xs = []
  · subst h0
    obtain ⟨A, c, rfl, -⟩ := ho.is
    have HO := hid ho
    clear ho hm
    go_enter Try.func26, Try.ntmps26
    go_wp2_with fail
    go_loopw [2, 3] (fun s2 s3 wr => s2 = .int .i64 0 ∧ s3 = .int .i64 (-1) ∧ w = wr) (fun _ _ _ => 0)
    case atStart => exact ⟨rfl, rfl, rfl⟩
    case round =>
      obtain ⟨rfl, rfl, rfl⟩ := hrel
      go_wp2_with fail
      go_end0
      exact ⟨⟨_, rfl⟩, HO.out, Gr.refl _ _⟩
  · obtain ⟨g, c, rfl, -, hg, -⟩ := ho.one h0
    obtain ⟨-, hB, cur, hV, hsz, hnc, hc, ht⟩ := own_var ho
    have hlen : xs.length = (xs.map c2p).length := by simp
    have hp : Co.Row2 w g (xs.map c2p) := fun i q hq => by
      rw [List.getElem?_map] at hq
      cases hx : xs[i]? with
      | none => rw [hx] at hq; cases hq
      | some x =>
        rw [hx] at hq
        obtain rfl : c2p x = q := Option.some.inj hq
        have hcell : ∀ j u, (flatP xs)[j]? = some u → w.cell? ⟨g, j, none⟩ = some u := fun j u hu => by
          have := World.ownsRow.cellAt ho j (by
            rcases Nat.lt_or_ge j (flatP xs).length with k | k
            · rw [flatP_length] at k; exact k
            · rw [List.getElem?_eq_none k] at hu; cases hu)
          rw [this]; exact hu
        exact ⟨hcell _ _ (flatP_get xs i 0 x hx (by decide)), hcell _ _ (flatP_get xs i 1 x hx (by decide))⟩
    refine (Co.srev_any g xs.length c (xs.map c2p) cur w hlen (List.length_pos_iff.2 h0) hm hV (by rw [hsz]; omega) hp).mono ?_
    rintro e w' ⟨hu, hr, hgr, cs, hV', hsz'⟩
    refine ⟨hu, ⟨by rw [flatP_length], .inr ⟨g, c, cs, by simp, hB, hV', by simpa using hnc, hc, by rw [hsz', hsz], ?_⟩⟩, ⟨hgr, fun k hk => .inl hk⟩⟩
    have hl : (cs.toList.take (xs.reverse.length * 2)).length = (flatP xs.reverse).length := by
      have hcl : cs.toList.length = c * 2 := by rw [Array.length_toList, hsz', hsz]
      rw [List.length_take, flatP_length, List.length_reverse, hcl]; omega
    refine List.ext_getElem? fun j => ?_
    rcases Nat.lt_or_ge j (xs.length * 2) with hj | hj
    · obtain ⟨q, r, rfl, hr2⟩ : ∃ q r, j = q * 2 + r ∧ r < 2 := ⟨j / 2, j % 2, by omega, by omega⟩
      have hq : q < xs.reverse.length := by rw [List.length_reverse]; omega
      have h1 := hr q (c2p xs.reverse[q]) (by rw [← List.map_reverse, List.getElem?_map, List.getElem?_eq_getElem hq]; rfl)
      have h2 := flatP_get xs.reverse q r _ (List.getElem?_eq_getElem hq) hr2
      rw [List.getElem?_take, if_pos (by rw [List.length_reverse]; exact hj), h2, Array.getElem?_toList, ← hV'.cell (q * 2 + r)]
      rcases (show r = 0 ∨ r = 1 by omega) with rfl | rfl
      · exact h1.1
      · exact h1.2
    · rw [List.getElem?_eq_none (by rw [hl, flatP_length, List.length_reverse]; exact hj), List.getElem?_eq_none (by rw [flatP_length, List.length_reverse]; exact hj)]

/-! ### lines that are copied and turned -/
theorem row_gr {w w' : World} {B n : Nat} {u v : Value} {xs : List Value} (r : w.ownsRow B 38 2 v n xs) (hk : ∀ q, v.ownBlock = some q → w'.heap[q]? = w.heap[q]?) : w'.ownsRow B 38 2 v n xs := by
  refine ⟨r.1, ?_⟩
  rcases r.2 with h1 | ⟨g, cap, cur, hv, hBg, hh, hr⟩
  · exact .inl h1
  · exact .inr ⟨g, cap, cur, hv, hBg, (hk g (by rw [hv]; rfl)).trans hh, hr⟩
theorem KO.copy {B : Nat} {w0 w w2 : World} {v v1 u : Value} {es : List LE} {ps : List P2} {cl : Bool} (h : KO B w0 w v es) (hB : B ≤ w.heap.size)
    (hb : Below (w.alloc (.cells #[u, .bool cl] 38)).heap.size (w.alloc (.cells #[u, .bool cl] 38)) w2) (ho : OwnP w2 (w.alloc (.cells #[u, .bool cl] 38)).heap.size v1 ps) :
    KF B w0 (w2.setCell ⟨w.heap.size, 0, none⟩ v1) v es w.heap.size v1 ps cl := by
  have hb1 := (Below.refl w.heap.size w).alloc (Nat.le_refl _) (.cells #[u, .bool cl] 38)
  have hV := (Var.new w #[u, .bool cl] 38 _ rfl)
  have h1 := h.next hB hb1
  have hlt := hV.lt
  generalize w.alloc (.cells #[u, .bool cl] 38) = w1 at *
  have hB1 : B ≤ w1.heap.size := Nat.le_trans hB hb1.size
  have h2 := h1.next hB1 hb
  have hV2 := hV.next hb
  have far : ∀ z : Value, (∀ q, z.ownBlock = some q → q < w.heap.size) → apart (yb w.heap.size) z := fun z hz q k1 k2 => by
    have := hz q k2
    have := (yb_own _ _).1 k1
    omega
  have BV := far v fun q hq => (h.ge q hq).2
  have BE : ∀ e ∈ es, apart (yb w.heap.size) (lev e) := fun e he => far _ (h.p e he).lt
  have BP : apart (yb w.heap.size) v1 := fun q k1 k2 => by
    have := (ho.ge q k2).1
    have := (yb_own _ _).1 k1
    omega
  have hs : Gr (yb w.heap.size) (yb w.heap.size) w2 (w2.setCell ⟨w.heap.size, 0, none⟩ v1) := Gr.set
  exact ⟨⟨h2.be.setCell (p := ⟨w.heap.size, 0, none⟩) hB v1, row_gr (u := v) h2.r (hs.keeps BV fun q hq => (h2.ge q hq).2), fun e he => (h2.p e he).gr hs (BE e he)⟩, hB, hV2.set (i := 0) v1,
    (ho.mono hB1).keep (hs.keeps BP fun q hq => (ho.ge q hq).2), fun q k1 k2 => (by
      have := (ho.ge q k1).1
      have := (h.ge q k2).2
      omega), fun e he q k1 k2 => (by
      have := (ho.ge q k1).1
      have := (h.p e he).lt q k2
      omega), BV, BP, BE⟩
theorem KF.turn {B : Nat} {w0 w w' : World} {v : Value} {es : List LE} {b : Nat} {vp : Value} {ps ps' : List P2} {cl : Bool} (h : KF B w0 w v es b vp ps cl) (hB : B ≤ w.heap.size) (ho : OwnP w' B vp ps') (hg : Gr vp vp w w') :
    KF B w0 w' v es b vp ps' cl := by
  have hl := fun q hq => (h.o.ge q hq).2
  have hy : ∀ q, (yb b).ownBlock = some q → q < w.heap.size := fun q hq => by
    have := (yb_own _ _).1 hq; subst this; exact h.x.lt
  exact ⟨⟨h.o.be.trans (hg.below hB fun q hq => (h.po.ge q hq).1), row_gr (u := v) h.o.r (hg.keeps h.PV hl), fun e he => (h.o.p e he).gr hg (h.PE e he)⟩, h.bB, h.x.keep (hg.keeps h.BP.symm hy b rfl), ho, h.PV, h.PE, h.BV, h.BP, h.BE⟩

set_option maxRecDepth 100000 in
set_option maxHeartbeats 8000000 in
theorem krev_law (A : Option Addr) (n c : Nat) (ls : List Ln) (w : World) (hn : n = ls.length) (hs : Lns w A ls) (hm : n ≤ maxLen) :
    Calls Try.prog 6 #[.slice A n c] w fun e w' => e = .returned (.bool true) ∧ Below w.heap.size w w' := by
  have HS := hid hs
  have HN := hid hn
  have HM := hid hm
  clear hs hn hm
  go_enter Try.func6, Try.ntmps6
  go_wp2_with fail
  (with_reducible refine (kfills_any _).mono ?_); rintro e w1 ⟨rfl, hb⟩
  have HB1 := hid hb
  clear hb
  go_wp2_with fail
  obtain ⟨es, hes, hE⟩ := HS.out.ext
  have hnE : n = es.length := by have := HN.out; rw [this, ← hes, List.length_map]
  (with_reducible refine (kfew_any A es n c 300 _ hnE HM.out (hE.next HB1.out) (by decide)).mono ?_); rintro e w2 ⟨⟨A', c', es', rfl, hE2, hL2⟩, hb⟩
  rw [hes] at hL2
  have HB2 := hid (below_next HB1.out hb)
  have HL := hid (show es'.map LE.ln = fewL 300 ls from hL2)
  have HE := hid hE2
  clear hb hL2 hE2 hnE hE hes es HS HM HN HB1
  obtain ⟨L, hL⟩ : ∃ L, L = fewL 300 ls := ⟨_, rfl⟩
  have HIN := hid (few_in (m := 300) (by decide) (ls := ls))
  have HOK := hid (few_ok (m := 300) (by decide) ls)
  have HPS := hid (few_ps 300 ls)
  have HED := hid (few_edges 300 ls)
  have HAR := hid (few_area (m := 300) (by decide) ls)
  have hlen := few_len 300 ls
  rw [← hL] at HIN HOK HPS HED HAR HL hlen
  clear hL
  obtain ⟨m, hmE⟩ : ∃ m, m = es'.length := ⟨_, rfl⟩
  rw [← hmE]
  have HME := hid hmE
  have HML := hid (show m = L.length by rw [hmE, ← HL.out, List.length_map])
  have hm4 : m ≤ 4 := by have := HML.out; omega
  clear hmE hlen
  go_wp2_with fail
  go_loopw [3, 24] (fun s3 s24 wr => ∃ (i : Nat) (v : Value) (zs : List LE), v = s3 ∧ s24 = .int .i64 (i : Int) ∧ i ≤ m ∧ Hid (KO w2.heap.size w2 wr v zs) ∧ Hid (zs.map LE.ln = (L.take i).map revL)) (fun _ s24 _ => m - (intOf s24).toNat)
  case atStart => exact ⟨0, _, [], rfl, rfl, Nat.zero_le _, hid ⟨Below.refl _ _, World.ownsRow_nil _ _ _ 2, fun e h => (by cases h)⟩, hid rfl⟩
  case round =>
    obtain ⟨wx, rfl⟩ : ∃ wx, wx = wr := ⟨_, rfl⟩
    obtain ⟨i, v, zs, rfl, rfl, hi, HO, HZ⟩ := hrel
    by_cases him : i < m
    · have himi : (i : Int) < (m : Int) := by omega
      have hil : i < es'.length := by rw [← HME.out]; exact him
      have hiL : i < L.length := by rw [← HML.out]; exact him
      obtain ⟨a, rfl, hal, hsa⟩ := (HE.out.next HO.out.be).at_ hil
      have hel : LE.ln es'[i] = L[i] := by
        have h1 := HL.out
        subst h1
        simp
      have HTK := hid (show (L.take (i + 1)).map revL = (L.take i).map revL ++ [revL L[i]] by rw [List.take_succ_eq_append_getElem hiL, List.map_append]; rfl)
      have hps8 := HPS.out L[i] (List.getElem_mem _)
      rw [← hel] at HTK hps8
      generalize es'[i] = e at hsa HTK hps8
      clear hel
      obtain ⟨c0, c1, hpts, hle⟩ := hsa
      obtain ⟨A0, k0, ps, cl⟩ := e
      simp only [LE.ln] at HTK hps8 c0 c1 hpts hle
      have HBX := hid (show w2.heap.size ≤ wx.heap.size from HO.out.be.size)
      have hbe := (Below.refl _ wx).alloc (Nat.le_refl _) (.cells #[.slice A0 ps.length k0, .bool cl] 38)
      have HPT := hid (hpts.next hbe)
      clear hpts hle
      go_wp2_with fail
      obtain ⟨np, hnp⟩ : ∃ np, np = ps.length := ⟨_, rfl⟩
      rw [← hnp] at hbe HPT
      rw [← hnp]
      have HNP := hid hnp
      clear hnp c0 c1 hal
      (with_reducible refine (clone_any A0 ps np k0 _ HNP.out (by have := HNP.out; omega) HPT.out).mono ?_); rintro e w3 ⟨v1, rfl, ho, hb⟩
      have HKF := hid (HO.out.copy HBX.out hb ho)
      have HXV := hid ((Var.new wx #[.slice A0 np k0, .bool cl] 38 _ rfl).next hb)
      obtain ⟨A1, k1, hv1, hcap⟩ := ho.cap
      have HB3 := hid (show w2.heap.size ≤ w3.heap.size from Nat.le_trans HBX.out (Nat.le_trans hbe.size hb.size))
      rw [← HNP.out] at hv1 hcap
      have HCAP := hid hcap
      subst hv1
      obtain ⟨b, hbq⟩ : ∃ b, b = wx.heap.size := ⟨_, rfl⟩
      rw [← hbq] at HKF HXV
      rw [← hbq]
      clear ho hb hbe HPT HO hcap hbq
      obtain ⟨x0, x1, xf⟩ := HXV.out.read2
      go_wp2_with fail
      have HB4 := hid (show w2.heap.size ≤ (w3.setCell ⟨b, 0, none⟩ (.slice A1 np k1)).heap.size by simpa using HB3.out)
      generalize w3.setCell ⟨b, 0, none⟩ (.slice A1 np k1) = w4 at HKF HB4 ⊢
      clear x0 x1 xf HXV HB3
      (with_reducible refine (krev_any _ w2.heap.size ps _ HKF.out.po (by have := HNP.out; omega)).mono ?_); rintro e w5 ⟨⟨u, rfl⟩, ho, hg⟩
      have HKT := hid (HKF.out.turn HB4.out ho hg)
      have HB5 := hid (show w2.heap.size ≤ w5.heap.size from Nat.le_trans HB4.out hg.size)
      clear ho hg HKF HB4
      obtain ⟨y0, y1, yf⟩ := HKT.out.x.read2
      have HZL := hid (show zs.length ≤ 5000000000 by
        have h1 := congrArg List.length HZ.out
        simp only [List.length_map, List.length_take] at h1
        omega)
      have HPR := hid (show np = ps.reverse.length by rw [List.length_reverse]; exact HNP.out)
      have HCR := hid (show ps.reverse.length ≤ k1 ∧ k1 ≤ maxLen by rw [← HPR.out]; exact HCAP.out)
      obtain ⟨qs, hqs⟩ : ∃ qs, qs = ps.reverse := ⟨_, rfl⟩
      rw [← hqs] at HKT HPR HCR
      have HQS := hid hqs
      clear hqs
      go_wp2_with (at_builtin; refine wpList_append_Ln (B := w2.heap.size) (w0 := w2) (A := A1) (c := k1) (n := np) (ps := qs) (cl := cl) rfl _ _ rfl HB5.out rfl rfl HKT.out HPR.out HCR.out HZL.out ?_)
      intro v5 w6 hko
      have HKO5 := hid hko
      clear hko
      go_wp2_with fail
      go_roundw
      case rel => exact ⟨i + 1, v5, zs ++ [⟨A1, k1, qs, cl⟩], rfl, by go_num, by omega, HKO5, hid (by rw [List.map_append, HZ.out, HTK.out]; unfold revL LE.ln; rw [HQS.out]; rfl)⟩
      case measure => simp [intOf]; omega
    · have him2 : i = m := by omega
      have himi : ¬ (i : Int) < (m : Int) := by omega
      have HZ2 := hid (show zs.map LE.ln = L.map revL by have := HZ.out; rw [this, List.take_of_length_le (by rw [← HML.out]; omega)])
      obtain ⟨A5, c5, rfl, hL5⟩ := HO.out.lns
      have HE5 := hid hL5
      have HEL := hid (HE.out.next HO.out.be)
      have HB := hid (below_next HB2.out HO.out.be)
      have hzl : zs.length = m := by have h1 := congrArg List.length HZ2.out; rw [List.length_map, List.length_map, ← HML.out] at h1; exact h1
      rw [hzl]
      clear hL5 hzl him2 HO HZ
      go_wp2_with fail
      have HLL := hid (show Lns wx A' L from HL.out ▸ HEL.out.lns)
      have HLR := hid (show Lns wx A5 (L.map revL) from HZ2.out ▸ HE5.out.lns)
      have HMR := hid (show m = (L.map revL).length by rw [List.length_map]; exact HML.out)
      have HOR := hid (rev_ok HOK.out)
      have HER := hid (show (edgesL (L.map revL)).length ≤ 32 by rw [rev_edges]; exact HED.out)
      have HARR := hid (show areaF (edgesL (L.map revL)) = -area2 L by rw [area_in (m := 300) (by decide) (rev_in HIN.out) HER.out, area2_rev])
      have hml : m ≤ maxLen := by unfold maxLen; omega
      (with_reducible refine (fill_O A' L m c' _ HML.out hml HLL.out HOK.out (by have := HED.out; omega)).mono ?_); rintro e w10 ⟨⟨v10, r10, rfl, hF, hown⟩, hb⟩
      have HB := hid (below_next HB.out hb)
      have HLL := hid (HLL.out.next hb)
      have HLR := hid (HLR.out.next hb)
      have HF10 := hid hF
      have HO10 := hid hown
      clear hF hown hb
      go_wp2_with fail
      (with_reducible refine (fill_O A5 (L.map revL) m c5 _ HMR.out hml HLR.out HOR.out (by have := HER.out; omega)).mono ?_); rintro e w11 ⟨⟨v11, r11, rfl, hF, hown⟩, hb⟩
      have HB := hid (below_next HB.out hb)
      have HLL := hid (HLL.out.next hb)
      have HLR := hid (HLR.out.next hb)
      have HO10 := hid (HO10.out.next hb)
      obtain rfl := HF10.out.rev.uniq hF
      have HO11 := hid hown
      clear hF hown hb
      go_wp2_with fail
      (with_reducible refine (fill_E A' L m c' _ HML.out hml HLL.out HOK.out (by have := HED.out; omega)).mono ?_); rintro e w12 ⟨⟨v12, r12, rfl, hF, hown⟩, hb⟩
      have HB := hid (below_next HB.out hb)
      have HLL := hid (HLL.out.next hb)
      have HLR := hid (HLR.out.next hb)
      have HO10 := hid (HO10.out.next hb)
      have HO11 := hid (HO11.out.next hb)
      have HF12 := hid hF
      have HO12 := hid hown
      clear hF hown hb
      go_wp2_with fail
      (with_reducible refine (fill_E A5 (L.map revL) m c5 _ HMR.out hml HLR.out HOR.out (by have := HER.out; omega)).mono ?_); rintro e w13 ⟨⟨v13, r13, rfl, hF, hown⟩, hb⟩
      have HB := hid (below_next HB.out hb)
      have HLL := hid (HLL.out.next hb)
      have HLR := hid (HLR.out.next hb)
      have HO10 := hid (HO10.out.next hb)
      have HO11 := hid (HO11.out.next hb)
      have HO12 := hid (HO12.out.next hb)
      obtain rfl := HF12.out.rev.uniq hF
      have HO13 := hid hown
      clear hF hown hb
      go_wp2_with fail
      (with_reducible refine (area2_ok A' L m c' _ HML.out hml HLL.out HOK.out).mono ?_); rintro e w14 ⟨rfl, hb⟩
      have HB := hid (below_next HB.out hb)
      have HLR := hid (HLR.out.next hb)
      have HO10 := hid (HO10.out.next hb)
      have HO11 := hid (HO11.out.next hb)
      have HO12 := hid (HO12.out.next hb)
      have HO13 := hid (HO13.out.next hb)
      rw [HAR.out.1]
      clear hb
      go_wp2_with fail
      (with_reducible refine (area2_ok A5 (L.map revL) m c5 _ HMR.out hml HLR.out HOR.out).mono ?_); rintro e w15 ⟨rfl, hb⟩
      have HB := hid (below_next HB.out hb)
      have HO10 := hid (HO10.out.next hb)
      have HO11 := hid (HO11.out.next hb)
      have HO12 := hid (HO12.out.next hb)
      have HO13 := hid (HO13.out.next hb)
      rw [HARR.out]
      have HAB := hid HAR.out.2
      clear hb HAR HARR HIN
      generalize area2 L = V at HAB ⊢
      obtain ⟨A10, k10, rfl, hr⟩ := HO10.out.is
      have HR10 := hid hr
      clear hr
      obtain ⟨A11, k11, rfl, hr⟩ := HO11.out.is
      have HR11 := hid hr
      clear hr
      obtain ⟨A12, k12, rfl, hr⟩ := HO12.out.is
      have HR12 := hid hr
      clear hr
      obtain ⟨A13, k13, rfl, hr⟩ := HO13.out.is
      have HR13 := hid hr
      clear hr
      have HC10 := hid (chk_len HF10.out.1)
      have HC12 := hid (chk_len HF12.out.1)
      clear HO10 HO11 HO12 HO13
      obtain ⟨p, hp⟩ : ∃ p, p = r10.length := ⟨_, rfl⟩
      obtain ⟨q, hq⟩ : ∃ q, q = r12.length := ⟨_, rfl⟩
      rw [← hp, ← hq]
      have HP := hid hp
      have HQ := hid hq
      have hpm : p ≤ maxLen := by rw [hp]; have := HC10.out; unfold maxLen; omega
      have hqm : q ≤ maxLen := by rw [hq]; have := HC12.out; unfold maxLen; omega
      have HPM := hid hpm
      have HQM := hid hqm
      obtain ⟨hV1, hV2⟩ := HAB.out
      clear hp hq hpm hqm hml himi hm4
      go_wp2_with fail
      (with_reducible refine (equal_any A10 A11 p k10 p k11 r10 r10 _ HP.out HP.out HPM.out HPM.out HR10.out HR11.out).mono ?_); rintro e w16 ⟨rfl, hb⟩
      have HB := hid (below_next HB.out hb)
      have HR12 := hid (HR12.out.next hb)
      have HR13 := hid (HR13.out.next hb)
      rw [show decide (r10 = r10) = true by simp]
      clear hb HR10 HR11
      go_wp2_with fail
      (with_reducible refine (equal_any A12 A13 q k12 q k13 r12 r12 _ HQ.out HQ.out HQM.out HQM.out HR12.out HR13.out).mono ?_); rintro e w17 ⟨rfl, hb⟩
      have HB := hid (below_next HB.out hb)
      rw [show decide (r12 = r12) = true by simp]
      clear hb HR12 HR13
      go_wp2_with fail
      go_ret
      exact ⟨by simp, HB.out⟩
end Go.Proofs.Ytijkoaggcmgjiaa

/- A triangle's winding numbers have one sign. -/
namespace Go.Proofs.Ytijkoaggcmgjiaa
open Go Go.RowKit
set_option linter.unusedVariables false
set_option linter.unusedSimpArgs false

theorem tri_id1 (ax ay bx b_y cx cy k : Int) : (2 * (cy - ay) * ax + (cx - ax) * k) * (b_y - ay) - (2 * (b_y - ay) * ax + (bx - ax) * k) * (cy - ay) = k * (cx * (b_y - ay) - bx * (cy - ay) + ax * (cy - b_y)) := by
  grind
theorem tri_id2 (ax ay bx b_y cx cy y : Int) : (2 * (cy - ay) * ax + (cx - ax) * (2 * y + 1 - 2 * ay)) * (cy - b_y) - (2 * (cy - b_y) * bx + (cx - bx) * (2 * y + 1 - 2 * b_y)) * (cy - ay) = (2 * cy - 2 * y - 1) * (cx * (b_y - ay) - bx * (cy - ay) + ax * (cy - b_y)) := by
  grind
/-- The crossing of the one is not behind that of the other. -/
theorem cross_le {n1 h1 n2 h2 t : Int} (hh1 : 0 < h1) (hh2 : 0 < h2) (hd : n1 * h2 - n2 * h1 ≤ 0) (h : n2 ≤ t * h2) : n1 ≤ t * h1 := by
  have k1 : n2 * h1 ≤ t * h2 * h1 := Int.mul_le_mul_of_nonneg_right h (by omega)
  have k2 : n1 * h2 ≤ (t * h1) * h2 := by
    have e : t * h2 * h1 = t * h1 * h2 := by grind
    omega
  exact Int.le_of_mul_le_mul_right k2 hh2
def cr (s : Sl) (x y : Int) : Prop := s.num y ≤ (2 * x + 1) * s.h
theorem w_hit {s : Sl} {x y : Int} (h : s.hit y = true) : (cr s x y → s.w x y = s.d) ∧ (¬ cr s x y → s.w x y = 0) := by
  have hc := Sl.cell_le (s := s) (x := x) (y := y) (Sl.hit_h h)
  unfold Sl.w cr
  rw [h]
  refine ⟨fun k => ?_, fun k => ?_⟩
  · rw [decide_eq_true (hc.2 k)]; rfl
  · rw [decide_eq_false (fun k' => k (hc.1 k'))]; rfl
theorem w_no {s : Sl} {x y : Int} (h : s.hit y = false) : s.w x y = 0 := by
  unfold Sl.w
  rw [h]
  rfl
theorem slp_up {p q : P2} (h : p.y ≤ q.y) : slp p q = ⟨p, q, 1⟩ := by unfold slp; rw [if_pos h]
theorem slp_dn {p q : P2} (h : q.y < p.y) : slp p q = ⟨q, p, -1⟩ := by unfold slp; rw [if_neg (by omega)]
theorem tri_up {a b c : P2} (h1 : a.y ≤ b.y) (h2 : b.y ≤ c.y) : ∃ σ : Int, (σ = 1 ∨ σ = -1) ∧ ∀ x y, edW (a, b) x y + edW (b, c) x y + edW (c, a) x y = 0 ∨ edW (a, b) x y + edW (b, c) x y + edW (c, a) x y = σ := by
  by_cases hac : a.y < c.y
  · obtain ⟨E, hE⟩ : ∃ E, E = c.x * (b.y - a.y) - b.x * (c.y - a.y) + a.x * (c.y - b.y) := ⟨_, rfl⟩
    refine ⟨if E ≤ 0 then -1 else 1, by split <;> simp, fun x y => ?_⟩
    unfold edW
    rw [slp_up h1, slp_up h2, slp_dn hac]
    have hl : (⟨a, c, -1⟩ : Sl).hit y = decide (a.y ≤ y ∧ y < c.y) := rfl
    have hab : (⟨a, b, 1⟩ : Sl).hit y = decide (a.y ≤ y ∧ y < b.y) := rfl
    have hbc : (⟨b, c, 1⟩ : Sl).hit y = decide (b.y ≤ y ∧ y < c.y) := rfl
    have H1 : (⟨a, c, -1⟩ : Sl).h = c.y - a.y := rfl
    have H2 : (⟨a, b, 1⟩ : Sl).h = b.y - a.y := rfl
    have H3 : (⟨b, c, 1⟩ : Sl).h = c.y - b.y := rfl
    have N1 : (⟨a, c, -1⟩ : Sl).num y = 2 * (c.y - a.y) * a.x + (c.x - a.x) * (2 * y + 1 - 2 * a.y) := rfl
    have N2 : (⟨a, b, 1⟩ : Sl).num y = 2 * (b.y - a.y) * a.x + (b.x - a.x) * (2 * y + 1 - 2 * a.y) := rfl
    have N3 : (⟨b, c, 1⟩ : Sl).num y = 2 * (c.y - b.y) * b.x + (c.x - b.x) * (2 * y + 1 - 2 * b.y) := rfl
    have I1 := tri_id1 a.x a.y b.x b.y c.x c.y (2 * y + 1 - 2 * a.y)
    have I2 := tri_id2 a.x a.y b.x b.y c.x c.y y
    rw [← hE, ← N1, ← N2, ← H1, ← H2] at I1
    rw [← hE, ← N1, ← N3, ← H1, ← H3] at I2
    by_cases k1 : a.y ≤ y ∧ y < b.y
    · have q1 : (⟨a, c, -1⟩ : Sl).hit y = true := by rw [hl]; exact decide_eq_true ⟨k1.1, by omega⟩
      have q2 : (⟨a, b, 1⟩ : Sl).hit y = true := by rw [hab]; exact decide_eq_true k1
      have q3 : (⟨b, c, 1⟩ : Sl).hit y = false := by rw [hbc]; exact decide_eq_false (by omega)
      rw [w_no q3]
      obtain ⟨u1, u2⟩ := w_hit (x := x) q1
      obtain ⟨v1, v2⟩ := w_hit (x := x) q2
      have p1 := Sl.hit_h q1
      have p2 := Sl.hit_h q2
      by_cases e : E ≤ 0
      · rw [if_pos e]
        have hd : (⟨a, c, -1⟩ : Sl).num y * (⟨a, b, 1⟩ : Sl).h - (⟨a, b, 1⟩ : Sl).num y * (⟨a, c, -1⟩ : Sl).h ≤ 0 := by
          rw [I1]
          exact Int.mul_nonpos_of_nonneg_of_nonpos (by omega) e
        have hi := fun t => cross_le (t := t) p1 p2 hd
        by_cases m1 : cr ⟨a, b, 1⟩ x y
        · rw [v1 m1, u1 (hi _ m1)]; simp
        · rw [v2 m1]
          by_cases m2 : cr ⟨a, c, -1⟩ x y
          · rw [u1 m2]; simp
          · rw [u2 m2]; simp
      · rw [if_neg e]
        have hd : (⟨a, b, 1⟩ : Sl).num y * (⟨a, c, -1⟩ : Sl).h - (⟨a, c, -1⟩ : Sl).num y * (⟨a, b, 1⟩ : Sl).h ≤ 0 := by
          have : 0 ≤ (2 * y + 1 - 2 * a.y) * E := Int.mul_nonneg (by omega) (by omega)
          omega
        have hi := fun t => cross_le (t := t) p2 p1 hd
        by_cases m2 : cr ⟨a, c, -1⟩ x y
        · rw [u1 m2, v1 (hi _ m2)]; simp
        · rw [u2 m2]
          by_cases m1 : cr ⟨a, b, 1⟩ x y
          · rw [v1 m1]; simp
          · rw [v2 m1]; simp
    · have q2 : (⟨a, b, 1⟩ : Sl).hit y = false := by rw [hab]; exact decide_eq_false k1
      rw [w_no q2]
      by_cases k2 : b.y ≤ y ∧ y < c.y
      · have q1 : (⟨a, c, -1⟩ : Sl).hit y = true := by rw [hl]; exact decide_eq_true ⟨by omega, k2.2⟩
        have q3 : (⟨b, c, 1⟩ : Sl).hit y = true := by rw [hbc]; exact decide_eq_true k2
        obtain ⟨u1, u2⟩ := w_hit (x := x) q1
        obtain ⟨v1, v2⟩ := w_hit (x := x) q3
        have p1 := Sl.hit_h q1
        have p2 := Sl.hit_h q3
        by_cases e : E ≤ 0
        · rw [if_pos e]
          have hd : (⟨a, c, -1⟩ : Sl).num y * (⟨b, c, 1⟩ : Sl).h - (⟨b, c, 1⟩ : Sl).num y * (⟨a, c, -1⟩ : Sl).h ≤ 0 := by
            rw [I2]
            exact Int.mul_nonpos_of_nonneg_of_nonpos (by omega) e
          have hi := fun t => cross_le (t := t) p1 p2 hd
          by_cases m1 : cr ⟨b, c, 1⟩ x y
          · rw [v1 m1, u1 (hi _ m1)]; simp
          · rw [v2 m1]
            by_cases m2 : cr ⟨a, c, -1⟩ x y
            · rw [u1 m2]; simp
            · rw [u2 m2]; simp
        · rw [if_neg e]
          have hd : (⟨b, c, 1⟩ : Sl).num y * (⟨a, c, -1⟩ : Sl).h - (⟨a, c, -1⟩ : Sl).num y * (⟨b, c, 1⟩ : Sl).h ≤ 0 := by
            have : 0 ≤ (2 * c.y - 2 * y - 1) * E := Int.mul_nonneg (by omega) (by omega)
            omega
          have hi := fun t => cross_le (t := t) p2 p1 hd
          by_cases m2 : cr ⟨a, c, -1⟩ x y
          · rw [u1 m2, v1 (hi _ m2)]; simp
          · rw [u2 m2]
            by_cases m1 : cr ⟨b, c, 1⟩ x y
            · rw [v1 m1]; simp
            · rw [v2 m1]; simp
      · have q1 : (⟨a, c, -1⟩ : Sl).hit y = false := by rw [hl]; exact decide_eq_false (by omega)
        have q3 : (⟨b, c, 1⟩ : Sl).hit y = false := by rw [hbc]; exact decide_eq_false k2
        rw [w_no q1, w_no q3]
        exact .inl rfl
  · refine ⟨1, .inl rfl, fun x y => .inl ?_⟩
    unfold edW
    rw [slp_up h1, slp_up h2, slp_up (show c.y ≤ a.y by omega)]
    have q1 : (⟨c, a, 1⟩ : Sl).hit y = false := decide_eq_false (by show ¬ (c.y ≤ y ∧ y < a.y); omega)
    have q2 : (⟨a, b, 1⟩ : Sl).hit y = false := decide_eq_false (by show ¬ (a.y ≤ y ∧ y < b.y); omega)
    have q3 : (⟨b, c, 1⟩ : Sl).hit y = false := decide_eq_false (by show ¬ (b.y ≤ y ∧ y < c.y); omega)
    rw [w_no q1, w_no q2, w_no q3]
    rfl
theorem tri_dn {a b c : P2} (h1 : a.y ≤ b.y) (h2 : b.y ≤ c.y) : ∃ σ : Int, (σ = 1 ∨ σ = -1) ∧ ∀ x y, edW (a, c) x y + edW (c, b) x y + edW (b, a) x y = 0 ∨ edW (a, c) x y + edW (c, b) x y + edW (b, a) x y = σ := by
  obtain ⟨σ, hs, h⟩ := tri_up h1 h2
  refine ⟨-σ, by omega, fun x y => ?_⟩
  have e1 : edW (a, c) x y = -edW (c, a) x y := edW_sw (c, a) x y
  have e2 : edW (c, b) x y = -edW (b, c) x y := edW_sw (b, c) x y
  have e3 : edW (b, a) x y = -edW (a, b) x y := edW_sw (a, b) x y
  have := h x y
  omega
theorem tri_wind (p q r : P2) (cl : Bool) : ∃ σ : Int, (σ = 1 ∨ σ = -1) ∧ ∀ x y, wind [⟨[p, q, r], cl⟩] x y = 0 ∨ wind [⟨[p, q, r], cl⟩] x y = σ := by
  have hw : ∀ x y, wind [⟨[p, q, r], cl⟩] x y = edW (p, q) x y + (edW (q, r) x y + (edW (r, p) x y + 0)) := fun x y => rfl
  have key : ∃ σ : Int, (σ = 1 ∨ σ = -1) ∧ ∀ x y, edW (p, q) x y + edW (q, r) x y + edW (r, p) x y = 0 ∨ edW (p, q) x y + edW (q, r) x y + edW (r, p) x y = σ := by
    rcases Int.le_total p.y q.y with h1 | h1 <;> rcases Int.le_total q.y r.y with h2 | h2 <;> rcases Int.le_total r.y p.y with h3 | h3
    · obtain ⟨σ, hs, h⟩ := tri_up h1 h2; exact ⟨σ, hs, fun x y => by have := h x y; omega⟩
    · obtain ⟨σ, hs, h⟩ := tri_up h1 h2; exact ⟨σ, hs, fun x y => by have := h x y; omega⟩
    · obtain ⟨σ, hs, h⟩ := tri_up h3 h1; exact ⟨σ, hs, fun x y => by have := h x y; omega⟩
    · obtain ⟨σ, hs, h⟩ := tri_dn h3 h2; exact ⟨σ, hs, fun x y => by have := h x y; omega⟩
    · obtain ⟨σ, hs, h⟩ := tri_up h2 h3; exact ⟨σ, hs, fun x y => by have := h x y; omega⟩
    · obtain ⟨σ, hs, h⟩ := tri_dn h1 h3; exact ⟨σ, hs, fun x y => by have := h x y; omega⟩
    · obtain ⟨σ, hs, h⟩ := tri_dn h2 h1; exact ⟨σ, hs, fun x y => by have := h x y; omega⟩
    · obtain ⟨σ, hs, h⟩ := tri_dn h2 h1; exact ⟨σ, hs, fun x y => by have := h x y; omega⟩
  obtain ⟨σ, hs, h⟩ := key
  exact ⟨σ, hs, fun x y => by have := h x y; rw [hw]; omega⟩
end Go.Proofs.Ytijkoaggcmgjiaa

/- FillConvexArea. -/
namespace Go.Proofs.Ytijkoaggcmgjiaa
open Go Go.RowKit
attribute [local go_sem] Oper.semAt_some
set_option linter.unusedVariables false
set_option linter.unusedSimpArgs false

theorem sum_cnt {σ lo : Int} {F : Int → Int} {g : Nat → Nat} : ∀ n : Nat, (∀ i : Nat, i < n → F (lo + (i : Int)) = σ * (g i : Int)) → sumI ((ups lo n).map F) = σ * (sumN n g : Int)
  | 0, _ => by simp [ups, sumI, sumN]
  | n + 1, h => by
    have hs : sumN (n + 1) g = sumN n g + g n := rfl
    rw [ups_succ, List.map_append, sumI_append, sum_cnt n (fun i hi => h i (by omega)), hs]
    show σ * (sumN n g : Int) + (F (lo + (n : Int)) + 0) = _
    rw [h n (by omega), Int.natCast_add, Int.mul_add]
    omega
theorem tri_count {p q r : P2} {cl : Bool} {σ : Int} (hσ : ∀ x y, wind [⟨[p, q, r], cl⟩] x y = 0 ∨ wind [⟨[p, q, r], cl⟩] x y = σ) (h0 : σ = 1 ∨ σ = -1) {rs : List Rn} (hF : Filled false [⟨[p, q, r], cl⟩] rs) : windSum [⟨[p, q, r], cl⟩] (-8192) 16384 = σ * areaL rs := by
  rw [area_cnt hF.1]
  unfold windSum cnt
  refine sum_cnt (g := fun y => sumN 16384 fun x => if has rs ((x : Int) - 8192) ((y : Int) - 8192) = true then 1 else 0) 16384 fun j hj => ?_
  refine sum_cnt (g := fun x => if has rs ((x : Int) - 8192) ((j : Int) - 8192) = true then 1 else 0) 16384 fun i hi => ?_
  have e1 : (-8192 + (i : Int)) = (i : Int) - 8192 := by omega
  have e2 : (-8192 + (j : Int)) = (j : Int) - 8192 := by omega
  rw [e1, e2]
  have hh := hF.2 ((i : Int) - 8192) ((j : Int) - 8192)
  rw [decide_eq_true (by omega)] at hh
  have hw := hσ ((i : Int) - 8192) ((j : Int) - 8192)
  rw [hh]
  generalize wind [⟨[p, q, r], cl⟩] ((i : Int) - 8192) ((j : Int) - 8192) = W at hw ⊢
  unfold isF
  rcases hw with rfl | rfl
  · simp
  · rcases h0 with rfl | rfl <;> simp
theorem tri_highs (p q r : P2) (cl : Bool) : highs [⟨[p, q, r], cl⟩] = 2 * (max (max p.y q.y) r.y - min (min p.y q.y) r.y) := by
  have h : highs [⟨[p, q, r], cl⟩] = max (q.y - p.y) (-(q.y - p.y)) + (max (r.y - q.y) (-(r.y - q.y)) + (max (p.y - r.y) (-(p.y - r.y)) + 0)) := rfl
  rw [h]
  omega
/-- The law's inequality. -/
theorem tri_law {p q r : P2} {cl : Bool} (hin : ∀ l ∈ ([⟨[p, q, r], cl⟩] : List Ln), ∀ p ∈ l.ps, (-4000 ≤ p.x ∧ p.x ≤ 4000) ∧ -4000 ≤ p.y ∧ p.y ≤ 4000) {rs : List Rn} (hF : Filled false [⟨[p, q, r], cl⟩] rs) :
    max (2 * areaL rs - max (area2 [⟨[p, q, r], cl⟩]) (-area2 [⟨[p, q, r], cl⟩])) (-(2 * areaL rs - max (area2 [⟨[p, q, r], cl⟩]) (-area2 [⟨[p, q, r], cl⟩]))) ≤ 2 * (max (max p.y q.y) r.y - min (min p.y q.y) r.y) := by
  obtain ⟨σ, hs, hσ⟩ := tri_wind p q r cl
  have hc := tri_count hσ hs hF
  have hb := area_bound (ls := [⟨[p, q, r], cl⟩]) (lo := -8192) (n := 16384) fun l hl p hp => by have := hin l hl p hp; unfold Win; omega
  have hn : 0 ≤ areaL rs := by rw [area_cnt hF.1]; omega
  rw [hc, tri_highs] at hb
  generalize area2 [⟨[p, q, r], cl⟩] = V at hb ⊢
  generalize areaL rs = N at hb hn ⊢
  rcases hs with rfl | rfl <;> omega
end Go.Proofs.Ytijkoaggcmgjiaa

/- FillConvexArea: the walk. -/
namespace Go.Proofs.Ytijkoaggcmgjiaa
open Go Go.RowKit
attribute [local go_sem] Oper.semAt_some
set_option linter.unusedVariables false
set_option linter.unusedSimpArgs false

section
variable {ρ : Operand → Value} {dst : Option Tmp} {ty : TypeId} {pos : String} {af : Array Edge} {x y : Operand} {w : World} {gd : Option (Nat × Bool)}
theorem run_fldP1d {a : Addr} (hx : ρ x = .pointer (some a)) :
    (execOp ρ { dst := dst, op := .fieldAddr 40 x 1, type := ty, pos := pos, after := af, guard := gd }).run Try.prog w = .ok (.value (.pointer (some ⟨a.block, a.off + 1, none⟩))) w := by
  go_simp
end
theorem one_line {es : List LE} {ps : List P2} {cl : Bool} (h : es.map LE.ln = [⟨ps, cl⟩]) : ∃ A c, es = [⟨A, c, ps, cl⟩] := by
  cases es with
  | nil => cases h
  | cons e t =>
    cases t with
    | nil =>
      obtain ⟨A, c, qs, d⟩ := e
      simp only [List.map_cons, List.map_nil, LE.ln, List.cons.injEq, Ln.mk.injEq, and_true] at h
      obtain ⟨rfl, rfl⟩ := h
      exact ⟨A, c, rfl⟩
    | cons e2 t2 => simp at h

set_option maxRecDepth 100000 in
set_option maxHeartbeats 8000000 in
theorem kcvx_law (p q r : P2) (w : World) :
    Calls Try.prog 7 #[ptv p, ptv q, ptv r] w fun e w' => e = .returned (.bool true) ∧ Below w.heap.size w w' := by
  go_enter Try.func7, Try.ntmps7
  go_wp2_with fail
  obtain ⟨w3, hw3⟩ : ∃ w3, w3 = ((w.alloc (.cells (pcel p) 40)).alloc (.cells (pcel q) 40)).alloc (.cells (pcel r) 40) := ⟨_, rfl⟩
  have b1 := (Below.refl w.heap.size w).alloc (Nat.le_refl _) (.cells (pcel p) 40)
  have b2 := (Below.refl (w.alloc (.cells (pcel p) 40)).heap.size (w.alloc (.cells (pcel p) 40))).alloc (Nat.le_refl _) (.cells (pcel q) 40)
  have b3 := (Below.refl ((w.alloc (.cells (pcel p) 40)).alloc (.cells (pcel q) 40)).heap.size ((w.alloc (.cells (pcel p) 40)).alloc (.cells (pcel q) 40))).alloc (Nat.le_refl _) (.cells (pcel r) 40)
  have HV1 := hid (((Var.new w (pcel p) 40 _ rfl).next b2).next b3)
  have HV2 := hid ((Var.new (w.alloc (.cells (pcel p) 40)) (pcel q) 40 _ rfl).next b3)
  have HV3 := hid (Var.new ((w.alloc (.cells (pcel p) 40)).alloc (.cells (pcel q) 40)) (pcel r) 40 _ rfl)
  have HB0 := hid (below_next (below_next b1 b2) b3)
  rw [World.size_alloc] at HV2
  rw [World.size_alloc, World.size_alloc] at HV3
  rw [← hw3] at HV1 HV2 HV3 HB0
  rw [← hw3]
  generalize w.heap.size + 1 + 1 = g3 at HV3 ⊢
  generalize w.heap.size + 1 = g2 at HV2 ⊢
  obtain ⟨g1, hg1⟩ : ∃ g1, g1 = w.heap.size := ⟨_, rfl⟩
  rw [← hg1] at HV1
  rw [← hg1]
  clear b1 b2 b3 hw3
  (with_reducible refine (kfills_any _).mono ?_); rintro e w4 ⟨rfl, hb⟩
  have HB1 := hid (show Below w.heap.size w w4 from below_next HB0.out hb)
  obtain ⟨p0, p1, -⟩ := (HV1.out.next hb).read2
  obtain ⟨q0, q1, -⟩ := (HV2.out.next hb).read2
  obtain ⟨r0, r1, -⟩ := (HV3.out.next hb).read2
  clear hb HB0 HV1 HV2 HV3 hg1
  go_wp2_with fail
  have k1 := (Below.refl w4.heap.size w4).alloc (Nat.le_refl _) (.cells #[.int .i64 p.x, .int .i64 p.y, .int .i64 q.x, .int .i64 q.y, .int .i64 r.x, .int .i64 r.y] 40)
  have V1 := Var.new w4 #[.int .i64 p.x, .int .i64 p.y, .int .i64 q.x, .int .i64 q.y, .int .i64 r.x, .int .i64 r.y] 40 _ rfl
  have hsz := World.size_alloc w4 (.cells #[.int .i64 p.x, .int .i64 p.y, .int .i64 q.x, .int .i64 q.y, .int .i64 r.x, .int .i64 r.y] 40)
  generalize w4.alloc (.cells #[.int .i64 p.x, .int .i64 p.y, .int .i64 q.x, .int .i64 q.y, .int .i64 r.x, .int .i64 r.y] 40) = w5 at k1 V1 hsz ⊢
  have k2 := (Below.refl w5.heap.size w5).alloc (Nat.le_refl _) (.cells #[.slice (some ⟨w4.heap.size, 0, none⟩) 3 3, .bool false] 38)
  have V2 := Var.new w5 #[.slice (some ⟨w4.heap.size, 0, none⟩) 3 3, .bool false] 38 _ rfl
  rw [← hsz]
  generalize w5.alloc (.cells #[.slice (some ⟨w4.heap.size, 0, none⟩) 3 3, .bool false] 38) = w6 at k2 V2 ⊢
  have hP : Pts w6 (some ⟨w4.heap.size, 0, none⟩) [p, q, r] := Var.pts (V1.next k2)
  have hE : LnsE w6 (some ⟨w5.heap.size, 0, none⟩) [⟨some ⟨w4.heap.size, 0, none⟩, 3, [p, q, r], false⟩] := fun _ => ⟨_, rfl, V2.lt, fun i e he => by
    cases i with
    | zero =>
      obtain rfl : _ = e := Option.some.inj he
      rw [adr0]
      exact ⟨V2.cell 0, V2.cell 1, hP, Nat.le_refl 3, by unfold maxLen; show (3 : Nat) ≤ _; decide⟩
    | succ i => simp at he⟩
  have HB2 := hid (below_next (below_next HB1.out k1) k2)
  clear k1 V1 hsz k2 V2 hP HB1 p0 p1 q0 q1 r0 r1
  (with_reducible refine (kfew_any _ _ 1 1 4000 _ rfl (by decide) hE (by decide)).mono ?_); rintro e w7 ⟨⟨A', c', es', rfl, hE2, hL2⟩, hb⟩
  have HB3 := hid (below_next HB2.out hb)
  obtain ⟨A1, c1, hes⟩ := one_line (ps := [cutP 4000 p, cutP 4000 q, cutP 4000 r]) (cl := false) hL2
  subst hes
  have HIN := hid (few_in (m := 4000) (by decide) (ls := [⟨[p, q, r], false⟩]))
  have HOK := hid (few_ok (m := 4000) (by decide) [⟨[p, q, r], false⟩])
  have HAR := hid (few_area (m := 4000) (by decide) [⟨[p, q, r], false⟩])
  have HED := hid (few_edges 4000 [⟨[p, q, r], false⟩])
  rw [show fewL 4000 [⟨[p, q, r], false⟩] = [⟨[cutP 4000 p, cutP 4000 q, cutP 4000 r], false⟩] from rfl] at HIN HOK HAR HED
  generalize cutP 4000 p = P at *
  generalize cutP 4000 q = Q at *
  generalize cutP 4000 r = R at *
  have HE := hid hE2
  clear hb hE2 hL2 hE HB2
  go_wp2_with fail
  (with_reducible refine (fill_O A' [⟨[P, Q, R], false⟩] 1 c' _ rfl (by decide) HE.out.lns HOK.out (by have := HED.out; omega)).mono ?_); rintro e w8 ⟨⟨v, rs, rfl, hF, hown⟩, hb⟩
  have HB4 := hid (below_next HB3.out hb)
  have HE4 := hid (HE.out.next hb)
  have HF := hid hF
  obtain ⟨A8, c8, rfl, hr⟩ := hown.is
  have HR := hid hr
  have HLAW := hid (tri_law HIN.out hF)
  have hpy := HIN.out _ (List.mem_singleton.2 rfl) P (by simp)
  have hqy := HIN.out _ (List.mem_singleton.2 rfl) Q (by simp)
  have hry := HIN.out _ (List.mem_singleton.2 rfl) R (by simp)
  have HCK := hid (show chk rs = 0 from hF.1)
  have HN := hid (show 0 ≤ areaL rs by rw [area_cnt hF.1]; omega)
  clear hb hF hown hr HB3 HE
  go_wp2_with fail
  (with_reducible refine (area_any A8 rs rs.length c8 _ rfl HR.out HCK.out).mono ?_); rintro e w9 ⟨rfl, hb⟩
  have HB5 := hid (below_next HB4.out hb)
  have HE5 := hid (HE4.out.next hb)
  clear hb HB4 HE4
  go_wp2_with fail
  (with_reducible refine (area2_ok A' [⟨[P, Q, R], false⟩] 1 c' _ rfl (by decide) HE5.out.lns HOK.out).mono ?_); rintro e w10 ⟨rfl, hb⟩
  have HB6 := hid (below_next HB5.out hb)
  obtain ⟨a, rfl, hal, hat⟩ := (HE5.out.next hb).at_ (i := 0) (by simp)
  obtain ⟨t0, t1, htp, -⟩ := hat
  obtain ⟨a1, rfl, hl1, hcs⟩ := htp (by simp)
  have H0C := hid (hcs 0 P rfl).c1
  have H1C := hid (hcs 1 Q rfl).c1
  have H2C := hid (hcs 2 R rfl).c1
  obtain ⟨hA1, hA2, hA3⟩ := HAR.out
  rw [hA1]
  clear hA1 HAR hb HB5 HE5 HF HR hcs hal
  generalize area2 [⟨[P, Q, R], false⟩] = V at HLAW hA2 hA3 ⊢
  generalize areaL rs = N at HLAW HN ⊢
  have e0 : a.add (0 * 2) = a := by cases a; simp [Addr.add]
  rw [e0] at t0
  have t0 : w10.cell? a = some (.slice (some a1) 3 c1) := t0
  have H0L := hid (show (⟨(a1.add (0 * 2)).block, (a1.add (0 * 2)).off + 1, none⟩ : Addr).block < w10.heap.size by show (a1.add (0 * 2)).block < _; rw [add_block]; exact hl1)
  have H1L := hid (show (⟨(a1.add (1 * 2)).block, (a1.add (1 * 2)).off + 1, none⟩ : Addr).block < w10.heap.size by show (a1.add (1 * 2)).block < _; rw [add_block]; exact hl1)
  have H2L := hid (show (⟨(a1.add (2 * 2)).block, (a1.add (2 * 2)).off + 1, none⟩ : Addr).block < w10.heap.size by show (a1.add (2 * 2)).block < _; rw [add_block]; exact hl1)
  clear e0 t1 hl1 htp
  go_upto_region 8 with fail
  rename_i Kn hKn
  refine wpIn_wide.1 (grow_round (F := Fence.wide) (n := 0) (by kernel_rfl) (by kernel_rfl) (by kernel_rfl) ?_)
  refine gq_val (v := .slice (some a1) 3 c1) (fun _ => trivial) rfl (fun w' hw' => rfl) ?_
  simp only [Act.put, List.setIfInBounds_toArray, List.set_cons_succ, List.set_cons_zero]
  refine gq_val (v := .pointer (some (a1.add (0 * 2)))) (fun _ => trivial) rfl (fun w' hw' => run_indexPN rfl rfl (by decide)) ?_
  simp only [Act.put, List.setIfInBounds_toArray, List.set_cons_succ, List.set_cons_zero]
  refine gq_val (v := .pointer (some ⟨(a1.add (0 * 2)).block, (a1.add (0 * 2)).off + 1, none⟩)) (fun _ => trivial) rfl (fun w' hw' => run_fldP1d rfl) ?_
  simp only [Act.put, List.setIfInBounds_toArray, List.set_cons_succ, List.set_cons_zero]
  refine gq_val (v := .int .i64 P.y) (fun _ => trivial) rfl (fun w' hw' => run_loadInt rfl ((hw'.cell (p := ⟨(a1.add (0 * 2)).block, (a1.add (0 * 2)).off + 1, none⟩) H0L.out).trans H0C.out)) ?_
  simp only [Act.put, List.setIfInBounds_toArray, List.set_cons_succ, List.set_cons_zero]
  refine gq_val (v := .slice (some a1) 3 c1) (fun _ => trivial) rfl (fun w' hw' => rfl) ?_
  simp only [Act.put, List.setIfInBounds_toArray, List.set_cons_succ, List.set_cons_zero]
  refine gq_val (v := .pointer (some (a1.add (1 * 2)))) (fun _ => trivial) rfl (fun w' hw' => run_indexPN rfl rfl (by decide)) ?_
  simp only [Act.put, List.setIfInBounds_toArray, List.set_cons_succ, List.set_cons_zero]
  refine gq_val (v := .pointer (some ⟨(a1.add (1 * 2)).block, (a1.add (1 * 2)).off + 1, none⟩)) (fun _ => trivial) rfl (fun w' hw' => run_fldP1d rfl) ?_
  simp only [Act.put, List.setIfInBounds_toArray, List.set_cons_succ, List.set_cons_zero]
  refine gq_val (v := .int .i64 Q.y) (fun _ => trivial) rfl (fun w' hw' => run_loadInt rfl ((hw'.cell (p := ⟨(a1.add (1 * 2)).block, (a1.add (1 * 2)).off + 1, none⟩) H1L.out).trans H1C.out)) ?_
  simp only [Act.put, List.setIfInBounds_toArray, List.set_cons_succ, List.set_cons_zero]
  refine gq_val (v := .slice (some a1) 3 c1) (fun _ => trivial) rfl (fun w' hw' => rfl) ?_
  simp only [Act.put, List.setIfInBounds_toArray, List.set_cons_succ, List.set_cons_zero]
  refine gq_val (v := .pointer (some (a1.add (2 * 2)))) (fun _ => trivial) rfl (fun w' hw' => run_indexPN rfl rfl (by decide)) ?_
  simp only [Act.put, List.setIfInBounds_toArray, List.set_cons_succ, List.set_cons_zero]
  refine gq_val (v := .pointer (some ⟨(a1.add (2 * 2)).block, (a1.add (2 * 2)).off + 1, none⟩)) (fun _ => trivial) rfl (fun w' hw' => run_fldP1d rfl) ?_
  simp only [Act.put, List.setIfInBounds_toArray, List.set_cons_succ, List.set_cons_zero]
  refine gq_val (v := .int .i64 R.y) (fun _ => trivial) rfl (fun w' hw' => run_loadInt rfl ((hw'.cell (p := ⟨(a1.add (2 * 2)).block, (a1.add (2 * 2)).off + 1, none⟩) H2L.out).trans H2C.out)) ?_
  simp only [Act.put, List.setIfInBounds_toArray, List.set_cons_succ, List.set_cons_zero]
  refine gq_val (v := .int .i64 (max (max P.y Q.y) R.y)) (fun _ => trivial) rfl (fun w' hw' => run_max3 rfl rfl rfl) ?_
  simp only [Act.put, List.setIfInBounds_toArray, List.set_cons_succ, List.set_cons_zero]
  refine gq_val (v := .slice (some a1) 3 c1) (fun _ => trivial) rfl (fun w' hw' => rfl) ?_
  simp only [Act.put, List.setIfInBounds_toArray, List.set_cons_succ, List.set_cons_zero]
  refine gq_val (v := .pointer (some (a1.add (0 * 2)))) (fun _ => trivial) rfl (fun w' hw' => run_indexPN rfl rfl (by decide)) ?_
  simp only [Act.put, List.setIfInBounds_toArray, List.set_cons_succ, List.set_cons_zero]
  refine gq_val (v := .pointer (some ⟨(a1.add (0 * 2)).block, (a1.add (0 * 2)).off + 1, none⟩)) (fun _ => trivial) rfl (fun w' hw' => run_fldP1d rfl) ?_
  simp only [Act.put, List.setIfInBounds_toArray, List.set_cons_succ, List.set_cons_zero]
  refine gq_val (v := .int .i64 P.y) (fun _ => trivial) rfl (fun w' hw' => run_loadInt rfl ((hw'.cell (p := ⟨(a1.add (0 * 2)).block, (a1.add (0 * 2)).off + 1, none⟩) H0L.out).trans H0C.out)) ?_
  simp only [Act.put, List.setIfInBounds_toArray, List.set_cons_succ, List.set_cons_zero]
  refine gq_val (v := .slice (some a1) 3 c1) (fun _ => trivial) rfl (fun w' hw' => rfl) ?_
  simp only [Act.put, List.setIfInBounds_toArray, List.set_cons_succ, List.set_cons_zero]
  refine gq_val (v := .pointer (some (a1.add (1 * 2)))) (fun _ => trivial) rfl (fun w' hw' => run_indexPN rfl rfl (by decide)) ?_
  simp only [Act.put, List.setIfInBounds_toArray, List.set_cons_succ, List.set_cons_zero]
  refine gq_val (v := .pointer (some ⟨(a1.add (1 * 2)).block, (a1.add (1 * 2)).off + 1, none⟩)) (fun _ => trivial) rfl (fun w' hw' => run_fldP1d rfl) ?_
  simp only [Act.put, List.setIfInBounds_toArray, List.set_cons_succ, List.set_cons_zero]
  refine gq_val (v := .int .i64 Q.y) (fun _ => trivial) rfl (fun w' hw' => run_loadInt rfl ((hw'.cell (p := ⟨(a1.add (1 * 2)).block, (a1.add (1 * 2)).off + 1, none⟩) H1L.out).trans H1C.out)) ?_
  simp only [Act.put, List.setIfInBounds_toArray, List.set_cons_succ, List.set_cons_zero]
  refine gq_val (v := .slice (some a1) 3 c1) (fun _ => trivial) rfl (fun w' hw' => rfl) ?_
  simp only [Act.put, List.setIfInBounds_toArray, List.set_cons_succ, List.set_cons_zero]
  refine gq_val (v := .pointer (some (a1.add (2 * 2)))) (fun _ => trivial) rfl (fun w' hw' => run_indexPN rfl rfl (by decide)) ?_
  simp only [Act.put, List.setIfInBounds_toArray, List.set_cons_succ, List.set_cons_zero]
  refine gq_val (v := .pointer (some ⟨(a1.add (2 * 2)).block, (a1.add (2 * 2)).off + 1, none⟩)) (fun _ => trivial) rfl (fun w' hw' => run_fldP1d rfl) ?_
  simp only [Act.put, List.setIfInBounds_toArray, List.set_cons_succ, List.set_cons_zero]
  refine gq_val (v := .int .i64 R.y) (fun _ => trivial) rfl (fun w' hw' => run_loadInt rfl ((hw'.cell (p := ⟨(a1.add (2 * 2)).block, (a1.add (2 * 2)).off + 1, none⟩) H2L.out).trans H2C.out)) ?_
  simp only [Act.put, List.setIfInBounds_toArray, List.set_cons_succ, List.set_cons_zero]
  refine gq_val (v := .int .i64 (min (min P.y Q.y) R.y)) (fun _ => trivial) rfl (fun w' hw' => run_min3 rfl rfl rfl) ?_
  simp only [Act.put, List.setIfInBounds_toArray, List.set_cons_succ, List.set_cons_zero]
  refine gq_val (v := .int .i64 (max (max P.y Q.y) R.y - min (min P.y Q.y) R.y)) (fun _ => trivial) rfl (fun w' hw' => run_sub rfl rfl (by unfold Rg; omega)) ?_
  simp only [Act.put, List.setIfInBounds_toArray, List.set_cons_succ, List.set_cons_zero]
  refine gq_val (v := .int .i64 (max (max P.y Q.y) R.y - min (min P.y Q.y) R.y)) (fun _ => trivial) rfl (fun w' hw' => rfl) ?_
  simp only [Act.put, List.setIfInBounds_toArray, List.set_cons_succ, List.set_cons_zero]
  refine wpQuietIn_nil ?_
  rintro w11 hb
  refine hKn _ _ ?_
  have HB7 := hid (below_next HB6.out hb)
  have hlaw := HLAW.out
  have hN := HN.out
  have hH : 0 ≤ max (max P.y Q.y) R.y - min (min P.y Q.y) R.y ∧ max (max P.y Q.y) R.y - min (min P.y Q.y) R.y ≤ 8000 := by omega
  generalize max (max P.y Q.y) R.y - min (min P.y Q.y) R.y = H at hlaw hH ⊢
  clear hb HB6 hKn Kn t0 HLAW HN H0C H1C H2C H0L H1L H2L hpy hqy hry
  go_wp2_with fail
  (with_reducible refine (ksize_any _ _ (by omega)).mono ?_); rintro e w12 ⟨rfl, rfl⟩
  go_wp2_with fail
  (with_reducible refine (ksize_any _ _ (by omega)).mono ?_); rintro e w13 ⟨rfl, rfl⟩
  go_wp2_with fail
  go_ret
  exact ⟨by simp, HB7.out⟩
end Go.Proofs.Ytijkoaggcmgjiaa
