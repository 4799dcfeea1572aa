/- The number of cells of a region is its area. -/
import Derived.Test.YtepnpnidbpaimaaArea
import Derived.Test.YtepnpnidbpaimaaComb
namespace Go.Proofs.Ytepnpnidbpaimaa
open Go
set_option linter.unusedVariables false

def sumN : Nat → (Nat → Nat) → Nat
  | 0, _ => 0
  | n + 1, g => sumN n g + g n
theorem sumN_add (g h : Nat → Nat) : ∀ n, sumN n (fun i => g i + h i) = sumN n g + sumN n h
  | 0 => rfl
  | n + 1 => by simp only [sumN]; rw [sumN_add g h n]; omega
theorem sumN_congr {g h : Nat → Nat} (k : ∀ i, g i = h i) : ∀ n, sumN n g = sumN n h
  | 0 => rfl
  | n + 1 => by simp only [sumN]; rw [sumN_congr k n, k n]
theorem sumN_zero : ∀ n, sumN n (fun _ => 0) = 0
  | 0 => rfl
  | n + 1 => by simp only [sumN]; rw [sumN_zero n]
theorem sumN_one (k c : Nat) : ∀ n, sumN n (fun i => if i = k then c else 0) = if k < n then c else 0
  | 0 => by simp [sumN]
  | n + 1 => by
    simp only [sumN]
    rw [sumN_one k c n]
    by_cases h1 : k < n
    · rw [if_pos h1, if_neg (by omega), if_pos (by omega), Nat.add_zero]
    · by_cases h2 : n = k
      · rw [if_neg h1, if_pos h2, if_pos (by omega)]; omega
      · rw [if_neg h1, if_neg h2, if_neg (by omega)]
theorem sumN_seg (lo hi : Nat) (h : lo ≤ hi) : ∀ n, sumN n (fun i => if lo ≤ i ∧ i < hi then 1 else 0) = min n hi - min n lo
  | 0 => by simp [sumN]
  | n + 1 => by
    simp only [sumN]
    rw [sumN_seg lo hi h n]
    by_cases h1 : lo ≤ n ∧ n < hi
    · rw [if_pos h1]; omega
    · rw [if_neg h1]; omega
/-- The number of cells of a set. -/
def cnt (f : Int → Int → Bool) : Nat := sumN 16384 fun y => sumN 16384 fun x => if f ((x : Int) - 8192) ((y : Int) - 8192) = true then 1 else 0
theorem cnt_add {f g a b : Int → Int → Bool} (h : ∀ x y, (if f x y = true then 1 else 0) + (if g x y = true then 1 else 0) = (if a x y = true then 1 else 0) + (if b x y = true then (1 : Nat) else 0)) : cnt f + cnt g = cnt a + cnt b := by
  unfold cnt
  rw [← sumN_add, ← sumN_add]
  refine sumN_congr (fun y => ?_) _
  rw [← sumN_add, ← sumN_add]
  exact sumN_congr (fun x => h _ _) _
theorem cnt_none : cnt (fun _ _ => false) = 0 := by
  unfold cnt
  refine (sumN_congr (fun y => ?_) _).trans (sumN_zero _)
  exact (sumN_congr (fun x => by simp) _).trans (sumN_zero _)
theorem cnt_run {r : Rn} (h : RnOk r) : (cnt (hasR r) : Int) = r.b - r.a := by
  obtain ⟨⟨h1, h2, h3⟩, h4⟩ := h
  have e : cnt (hasR r) = sumN 16384 (fun y => if y = (r.y + 8192).toNat then (r.b - r.a).toNat else 0) := by
    unfold cnt
    refine sumN_congr (fun y => ?_) _
    by_cases hy : y = (r.y + 8192).toNat
    · rw [if_pos hy]
      refine (sumN_congr (h := fun i => if (r.a + 8192).toNat ≤ i ∧ i < (r.b + 8192).toNat then 1 else 0) (fun x => ?_) _).trans ?_
      · unfold hasR
        simp only [decide_eq_true_eq]
        by_cases hx : (r.a + 8192).toNat ≤ x ∧ x < (r.b + 8192).toNat
        · rw [if_pos hx, if_pos (by omega)]
        · rw [if_neg hx, if_neg (by omega)]
      · rw [sumN_seg _ _ (by omega)]; omega
    · rw [if_neg hy]
      refine (sumN_congr (fun x => ?_) _).trans (sumN_zero _)
      unfold hasR
      simp only [decide_eq_true_eq]
      rw [if_neg (by omega)]
  rw [e, sumN_one, if_pos (by omega)]
  omega
theorem area_cnt : ∀ {rs : List Rn} {p : Option Rn}, chkAll p rs = 0 → areaL rs = cnt (has rs)
  | [], _, _ => by
    have : has [] = fun _ _ => false := rfl
    rw [this, cnt_none]; rfl
  | r :: rs, p, h => by
    obtain ⟨h1, h2, h3⟩ := chkAll_cons.1 h
    have ih := area_cnt h3
    have hb := (chkAll_all h3).1
    have e : cnt (has (r :: rs)) + cnt (fun _ _ => false) = cnt (hasR r) + cnt (has rs) := cnt_add fun x y => by
      rw [has_cons]
      cases hr : hasR r x y
      · simp
      · cases hs : has rs x y
        · simp
        · exfalso
          obtain ⟨t, ht, f1, f2, f3⟩ := has_iff.1 hs
          have h2 : Bh t r := (hb t ht).2
          unfold Bh at h2
          unfold hasR at hr
          have := of_decide_eq_true hr
          omega
    rw [cnt_none, Nat.add_zero] at e
    rw [areaL, ih, e, ← cnt_run h1]
    omega
/-- Inclusion and exclusion. -/
theorem areas {a b u i d x : List Rn} (ha : chk a = 0) (hb : chk b = 0) (hu : IsOp (fun p q => p || q) a b u) (hi : IsOp (fun p q => p && q) a b i) (hd : IsOp (fun p q => p && !q) a b d) (hx : IsOp (fun p q => p != q) a b x) :
    areaL u = areaL a + areaL b - areaL i ∧ areaL d = areaL a - areaL i ∧ areaL x = areaL u - areaL i := by
  rw [area_cnt (p := none) ha, area_cnt (p := none) hb, area_cnt (p := none) hu.v, area_cnt (p := none) hi.v, area_cnt (p := none) hd.v, area_cnt (p := none) hx.v]
  have h1 : cnt (has u) + cnt (has i) = cnt (has a) + cnt (has b) := cnt_add fun x y => by rw [hu.h, hi.h]; cases has a x y <;> cases has b x y <;> rfl
  have h2 : cnt (has d) + cnt (has i) = cnt (has a) + cnt (fun _ _ => false) := cnt_add fun x y => by rw [hd.h, hi.h]; cases has a x y <;> cases has b x y <;> rfl
  have h3 : cnt (has x) + cnt (has i) = cnt (has u) + cnt (fun _ _ => false) := cnt_add fun s t => by rw [hx.h, hi.h, hu.h]; cases has a s t <;> cases has b s t <;> rfl
  rw [cnt_none] at h2 h3
  omega

end Go.Proofs.Ytepnpnidbpaimaa
