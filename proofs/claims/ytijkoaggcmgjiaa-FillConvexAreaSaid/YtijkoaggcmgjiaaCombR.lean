/- What the reference's Combined builds, row by row, border by border. Without a program. -/
import Derived.Test.YtijkoaggcmgjiaaJoin
import Derived.Test.YtijkoaggcmgjiaaComb
namespace Go.Proofs.Ytijkoaggcmgjiaa
open Go
set_option linter.unusedVariables false

/-- bs has the borders of row y, in order. -/
structure Bord (all : List Rn) (y : Int) (bs : List Int) : Prop where
  s : Sorted bs
  m : ∀ b, b ∈ bs ↔ ∃ r ∈ all, r.y = y ∧ (b = r.a ∨ b = r.b)
theorem sorted_lt {bs : List Int} (h : Sorted bs) {i j : Nat} (hi : i < bs.length) (hj : j < bs.length) (hij : i < j) : bs[i] < bs[j] := List.pairwise_iff_getElem.1 h i j hi hj hij
/-- No border lies strictly between two neighbours. -/
theorem sorted_gap {bs : List Int} (h : Sorted bs) {k : Nat} (hk : k + 1 < bs.length) {b : Int} (hb : b ∈ bs) : b ≤ bs[k] ∨ bs[k + 1] ≤ b := by
  obtain ⟨i, hi, rfl⟩ := List.getElem_of_mem hb
  rcases Nat.lt_trichotomy i k with h1 | h1 | h1
  · exact .inl (Int.le_of_lt (sorted_lt h hi (by omega) h1))
  · subst h1; exact .inl (Int.le_refl _)
  · rcases Nat.lt_or_ge (k + 1) i with h2 | h2
    · exact .inr (Int.le_of_lt (sorted_lt h hk hi h2))
    · have : i = k + 1 := by omega
      subst this; exact .inr (Int.le_refl _)
theorem sorted_first {bs : List Int} (h : Sorted bs) (h0 : 0 < bs.length) {b : Int} (hb : b ∈ bs) : bs[0] ≤ b := by
  obtain ⟨i, hi, rfl⟩ := List.getElem_of_mem hb
  rcases Nat.eq_zero_or_pos i with h1 | h1
  · subst h1; exact Int.le_refl _
  · exact Int.le_of_lt (sorted_lt h h0 hi h1)
theorem sorted_last {bs : List Int} (h : Sorted bs) {k : Nat} (hk : k + 1 = bs.length) {b : Int} (hb : b ∈ bs) : b ≤ bs[k] := by
  obtain ⟨i, hi, rfl⟩ := List.getElem_of_mem hb
  rcases Nat.lt_or_ge i k with h1 | h1
  · exact Int.le_of_lt (sorted_lt h hi (by omega) h1)
  · have : i = k := by omega
    subst this; exact Int.le_refl _
section
variable {all ss : List Rn} {y : Int} {bs : List Int}
theorem Bord.a (h : Bord all y bs) (hs : ∀ r ∈ ss, r ∈ all) {r : Rn} (hr : r ∈ ss) (hy : r.y = y) : r.a ∈ bs ∧ r.b ∈ bs := ⟨(h.m _).2 ⟨r, hs r hr, hy, .inl rfl⟩, (h.m _).2 ⟨r, hs r hr, hy, .inr rfl⟩⟩
theorem Bord.const (h : Bord all y bs) (hs : ∀ r ∈ ss, r ∈ all) {k : Nat} (hk : k + 1 < bs.length) {x : Int} (h1 : bs[k] ≤ x) (h2 : x < bs[k + 1]) : has ss x y = has ss bs[k] y := by
  rw [Bool.eq_iff_iff, has_iff, has_iff]
  constructor
  · rintro ⟨r, hr, e1, e2, e3⟩
    obtain ⟨ma, mb⟩ := h.a hs hr e1
    have g1 := sorted_gap h.s hk ma
    exact ⟨r, hr, e1, by omega, by omega⟩
  · rintro ⟨r, hr, e1, e2, e3⟩
    obtain ⟨ma, mb⟩ := h.a hs hr e1
    have g1 := sorted_gap h.s hk mb
    exact ⟨r, hr, e1, by omega, by omega⟩
theorem Bord.low (h : Bord all y bs) (hs : ∀ r ∈ ss, r ∈ all) (h0 : 0 < bs.length) {x : Int} (hx : x < bs[0]) : has ss x y = false := by
  cases e : has ss x y
  · rfl
  · obtain ⟨r, hr, e1, e2, e3⟩ := has_iff.1 e
    have := sorted_first h.s h0 (h.a hs hr e1).1
    omega
theorem Bord.high (h : Bord all y bs) (hs : ∀ r ∈ ss, r ∈ all) {k : Nat} (hk : k + 1 = bs.length) {x : Int} (hx : bs[k] ≤ x) : has ss x y = false := by
  cases e : has ss x y
  · rfl
  · obtain ⟨r, hr, e1, e2, e3⟩ := has_iff.1 e
    have := sorted_last h.s hk (h.a hs hr e1).2
    omega
end

structure RInv (keep : Bool → Bool → Bool) (xs ys : List Rn) (R : List Int) (M : Nat) (out : List Rn) : Prop where
  v : chk out = 0
  r : ∀ r ∈ out, r.y ∈ R
  s : ∀ x y, has out x y = (decide (y ∈ R) && keep (has xs x y) (has ys x y))
  n : out.length ≤ R.length * M
structure JInv (keep : Bool → Bool → Bool) (xs ys : List Rn) (R : List Int) (M : Nat) (y : Int) (bs : List Int) (k : Nat) (out : List Rn) : Prop where
  v : chk out = 0
  r : ∀ r ∈ out, r.y ∈ R ∨ r.y = y
  e : ∀ r ∈ out, r.y < y ∨ (r.y = y ∧ r.b ≤ bs.getD k 0)
  s : ∀ x y', has out x y' = if y' = y then (decide (x < bs.getD k 0) && keep (has xs x y) (has ys x y)) else (decide (y' ∈ R) && keep (has xs x y') (has ys x y'))
  n : out.length ≤ R.length * M + k

theorem has_nil (x y : Int) : has [] x y = false := rfl
theorem RInv.start {keep : Bool → Bool → Bool} {xs ys : List Rn} {M : Nat} : RInv keep xs ys [] M [] := ⟨rfl, fun r h => (by cases h), fun x y => by simp [has_nil], by simp⟩
section
variable {keep : Bool → Bool → Bool} {xs ys : List Rn} {R : List Int} {M : Nat} {y : Int} {bs : List Int} {k : Nat} {out : List Rn}
theorem getD_at {bs : List Int} {k : Nat} (h : k < bs.length) : bs.getD k 0 = bs[k] := by simp [h]
theorem RInv.begin (H : RInv keep xs ys R M out) (h0 : keep false false = false) (hR : ∀ z ∈ R, z < y) (hb : Bord (xs ++ ys) y bs) (hl : 0 < bs.length) : JInv keep xs ys R M y bs 0 out := by
  refine ⟨H.v, fun r hr => .inl (H.r r hr), fun r hr => .inl (hR _ (H.r r hr)), fun x y' => ?_, H.n⟩
  by_cases e : y' = y
  · subst e
    rw [if_pos rfl, H.s]
    have : ¬ y' ∈ R := fun h => by have := hR _ h; omega
    rw [decide_eq_false this, Bool.false_and]
    by_cases hx : x < bs.getD 0 0
    · rw [getD_at hl] at hx
      rw [hb.low (fun r hr => List.mem_append_left _ hr) hl hx, hb.low (fun r hr => List.mem_append_right _ hr) hl hx, h0, Bool.and_false]
    · rw [decide_eq_false hx, Bool.false_and]
  · rw [if_neg e, H.s]
theorem JInv.skip (H : JInv keep xs ys R M y bs k out) (hb : Bord (xs ++ ys) y bs) (hk : k + 1 < bs.length) (hn : keep (has xs bs[k] y) (has ys bs[k] y) = false) : JInv keep xs ys R M y bs (k + 1) out := by
  have h1 := sorted_lt hb.s (by omega) hk (Nat.lt_succ_self k)
  refine ⟨H.v, H.r, fun r hr => ?_, fun x y' => ?_, by have := H.n; omega⟩
  · have := H.e r hr
    rw [getD_at (by omega)] at this
    rw [getD_at hk]
    omega
  · rw [H.s]
    by_cases e : y' = y
    · rw [if_pos e, if_pos e, getD_at (by omega), getD_at hk]
      by_cases hx : x < bs[k]
      · rw [decide_eq_true hx, decide_eq_true (show x < bs[k + 1] by omega)]
      · rw [decide_eq_false hx, Bool.false_and]
        by_cases hx2 : x < bs[k + 1]
        · rw [hb.const (fun r hr => List.mem_append_left _ hr) hk (by omega) hx2, hb.const (fun r hr => List.mem_append_right _ hr) hk (by omega) hx2, hn, Bool.and_false]
        · rw [decide_eq_false hx2, Bool.false_and]
    · rw [if_neg e, if_neg e]
theorem JInv.join (H : JInv keep xs ys R M y bs k out) (hb : Bord (xs ++ ys) y bs) (hk : k + 1 < bs.length) (hy : -8192 ≤ y ∧ y ≤ 8191) (hr : ∀ b ∈ bs, -8192 ≤ b ∧ b ≤ 8192) (hn : keep (has xs bs[k] y) (has ys bs[k] y) = true) : JInv keep xs ys R M y bs (k + 1) (joinR out y bs[k] bs[k + 1]) := by
  have h1 := sorted_lt hb.s (by omega) hk (Nat.lt_succ_self k)
  have r0 := hr _ (List.getElem_mem (show k < bs.length by omega))
  have r1 := hr _ (List.getElem_mem hk)
  have hE := H.e
  rw [getD_at (show k < bs.length by omega)] at hE
  -- the cells of row y from bs[k] on
  have sem : ∀ x, (decide (x < bs[k + 1]) && keep (has xs x y) (has ys x y)) = ((decide (x < bs[k]) && keep (has xs x y) (has ys x y)) || decide (bs[k] ≤ x ∧ x < bs[k + 1])) := fun x => by
    by_cases hx : x < bs[k]
    · rw [decide_eq_true hx, decide_eq_true (show x < bs[k + 1] by omega), decide_eq_false (show ¬ (bs[k] ≤ x ∧ x < bs[k + 1]) by omega), Bool.or_false]
    · rw [decide_eq_false hx, Bool.false_and, Bool.false_or]
      by_cases hx2 : x < bs[k + 1]
      · rw [decide_eq_true hx2, Bool.true_and, hb.const (fun r hr => List.mem_append_left _ hr) hk (by omega) hx2, hb.const (fun r hr => List.mem_append_right _ hr) hk (by omega) hx2, hn, decide_eq_true (by omega)]
      · rw [decide_eq_false hx2, Bool.false_and, decide_eq_false (by omega)]
  have app : (∀ l, out.getLast? = some l → Bh ⟨y, bs[k], bs[k + 1]⟩ l) → JInv keep xs ys R M y bs (k + 1) (out ++ [⟨y, bs[k], bs[k + 1]⟩]) := fun hl => by
    refine ⟨chkAll_snoc.2 ⟨H.v, ⟨⟨hy, r0, r1⟩, h1⟩, ?_⟩, fun r hr' => ?_, fun r hr' => ?_, fun x y' => ?_, by have := H.n; simp; omega⟩
    · cases e : out.getLast? with
      | none => trivial
      | some l => exact hl l e
    · rcases List.mem_append.1 hr' with hr' | hr'
      · exact H.r r hr'
      · rw [List.mem_singleton] at hr'; subst hr'; exact .inr rfl
    · rw [getD_at hk]
      rcases List.mem_append.1 hr' with hr' | hr'
      · have := hE r hr'; omega
      · rw [List.mem_singleton] at hr'; subst hr'; exact .inr ⟨rfl, Int.le_refl _⟩
    · rw [has_snoc, H.s]
      unfold hasR
      simp only
      rw [getD_at (show k < bs.length by omega), getD_at hk]
      by_cases e : y' = y
      · rw [if_pos e, if_pos e, sem]
        congr 1
        rw [decide_eq_decide]
        omega
      · rw [if_neg e, if_neg e, decide_eq_false (show ¬ (y = y' ∧ bs[k] ≤ x ∧ x < bs[k + 1]) by omega), Bool.or_false]
  unfold joinR
  cases e : out.getLast? with
  | none => exact app (fun l hl => by rw [e] at hl; cases hl)
  | some l =>
    simp only
    have hl := List.mem_of_getLast? e
    by_cases hc : l.y = y ∧ l.b = bs[k]
    · rw [if_pos hc]
      obtain ⟨C, hC⟩ : ∃ C, out = C ++ [l] := by
        rcases List.eq_nil_or_concat out with h | ⟨C, l', h⟩
        · rw [h] at e; cases e
        · rw [List.concat_eq_append] at h
          rw [h] at e
          simp at e
          subst e
          exact ⟨C, h⟩
      subst hC
      rw [setEnd_snoc]
      have hv := chkAll_snoc.1 H.v
      have hlo := hv.2.1
      unfold RnOk RnIn at hlo
      refine ⟨chkAll_snoc.2 ⟨hv.1, ⟨⟨hlo.1.1, hlo.1.2.1, r1⟩, by simp only; omega⟩, ?_⟩, fun r hr' => ?_, fun r hr' => ?_, fun x y' => ?_, by have := H.n; simp at this ⊢; omega⟩
      · have := hv.2.2
        cases e2 : C.getLast? with
        | none => trivial
        | some l2 => rw [e2] at this; exact this
      · rcases List.mem_append.1 hr' with hr' | hr'
        · exact H.r r (List.mem_append_left _ hr')
        · rw [List.mem_singleton] at hr'; subst hr'; exact .inr hc.1
      · rw [getD_at hk]
        rcases List.mem_append.1 hr' with hr' | hr'
        · have := hE r (List.mem_append_left _ hr'); omega
        · rw [List.mem_singleton] at hr'; subst hr'; exact .inr ⟨hc.1, Int.le_refl _⟩
      · have h0 := H.s x y'
        rw [has_snoc] at h0
        rw [has_snoc, getD_at hk]
        rw [getD_at (show k < bs.length by omega)] at h0
        by_cases e3 : y' = y
        · rw [if_pos e3] at h0 ⊢
          rw [sem, ← h0]
          unfold hasR
          simp only
          rw [Bool.or_assoc]
          congr 1
          rw [← Bool.decide_or, decide_eq_decide]
          omega
        · rw [if_neg e3] at h0 ⊢
          rw [← h0]
          unfold hasR
          simp only
          congr 1
          rw [decide_eq_decide]
          omega
    · rw [if_neg hc]
      refine app (fun l' hl' => ?_)
      rw [e] at hl'
      cases hl'
      have := hE l hl
      unfold Bh
      simp only
      omega
theorem JInv.finish (H : JInv keep xs ys R M y bs k out) (h0 : keep false false = false) (hb : Bord (xs ++ ys) y bs) (hk : k + 1 = bs.length) (hM : k ≤ M) : RInv keep xs ys (R ++ [y]) M out := by
  refine ⟨H.v, fun r hr => ?_, fun x y' => ?_, ?_⟩
  · rcases H.r r hr with h | h
    · exact List.mem_append_left _ h
    · rw [h]; simp
  · rw [H.s]
    by_cases e : y' = y
    · subst e
      rw [if_pos rfl, decide_eq_true (show y' ∈ R ++ [y'] by simp), Bool.true_and, getD_at (by omega)]
      by_cases hx : x < bs[k]
      · rw [decide_eq_true hx, Bool.true_and]
      · rw [decide_eq_false hx, Bool.false_and, hb.high (fun r hr => List.mem_append_left _ hr) hk (by omega), hb.high (fun r hr => List.mem_append_right _ hr) hk (by omega), h0]
    · rw [if_neg e]
      congr 1
      rw [decide_eq_decide]
      simp [e]
  · have := H.n
    rw [List.length_append, List.length_singleton, Nat.add_mul]
    omega
theorem RInv.done (H : RInv keep xs ys R M out) (h0 : keep false false = false) (hR : ∀ r ∈ xs ++ ys, r.y ∈ R) : IsOp keep xs ys out := by
  refine ⟨H.v, fun x y => ?_⟩
  rw [H.s]
  by_cases h : y ∈ R
  · rw [decide_eq_true h, Bool.true_and]
  · have no : ∀ {ss : List Rn}, (∀ r ∈ ss, r ∈ xs ++ ys) → has ss x y = false := fun {ss} hs => by
      cases e : has ss x y
      · rfl
      · obtain ⟨r, hr, e1, -⟩ := has_iff.1 e
        exact absurd (e1 ▸ hR r (hs r hr)) h
    rw [decide_eq_false h, Bool.false_and, no (fun r hr => List.mem_append_left _ hr), no (fun r hr => List.mem_append_right _ hr), h0]
end

end Go.Proofs.Ytijkoaggcmgjiaa
