/- What a reference builds of cells, row by row, border by border. Without a program. -/
import Derived.Test.YtldbpabnfjnpbaaCombR
import Derived.Test.YtldbpabnfjnpbaaMor
namespace Go.Proofs.Ytldbpabnfjnpbaa
open Go
set_option linter.unusedVariables false

/-- bs has borders of row y in order: between them the row does not change. -/
structure BordF (f : Int → Int → Bool) (y : Int) (bs : List Int) : Prop where
  s : Sorted bs
  c : ∀ (k : Nat) (hk : k + 1 < bs.length) (x : Int), bs[k] ≤ x → x < bs[k + 1] → f x y = f bs[k] y
  lo : ∀ (h0 : 0 < bs.length) (x : Int), x < bs[0] → f x y = false
  hi : ∀ (k : Nat) (hk : k + 1 = bs.length) (x : Int), bs[k] ≤ x → f x y = false
/-- A row between borders. -/
theorem BordF.of {f : Int → Int → Bool} {y : Int} {bs : List Int} (h : Sorted bs) (hc : ∀ x z : Int, x ≤ z → f x y ≠ f z y → ∃ b ∈ bs, x < b ∧ b ≤ z) (he : ∀ x, (∀ b ∈ bs, x < b) → f x y = false) (hl : ∀ x, (∀ b ∈ bs, b ≤ x) → f x y = false) : BordF f y bs := by
  refine ⟨h, fun k hk x h1 h2 => ?_, fun h0 x hx => he x fun b hb => ?_, fun k hk x hx => hl x fun b hb => ?_⟩
  · by_cases e : f bs[k] y = f x y
    · exact e.symm
    · obtain ⟨b, hb, b1, b2⟩ := hc _ _ h1 e
      have := sorted_gap h hk hb
      omega
  · have := sorted_first h h0 hb; omega
  · have := sorted_last h hk hb; omega

structure RF (f : Int → Int → Bool) (R : List Int) (M : Nat) (out : List Rn) : Prop where
  v : chk out = 0
  r : ∀ r ∈ out, r.y ∈ R
  s : ∀ x y, has out x y = (decide (y ∈ R) && f x y)
  n : out.length ≤ R.length * M
structure JF (f : Int → Int → Bool) (R : List Int) (M : Nat) (y : Int) (bs : List Int) (k : Nat) (out : List Rn) : Prop where
  v : chk out = 0
  r : ∀ r ∈ out, r.y ∈ R ∨ r.y = y
  e : ∀ r ∈ out, r.y < y ∨ (r.y = y ∧ r.b ≤ bs.getD k 0)
  s : ∀ x y', has out x y' = if y' = y then (decide (x < bs.getD k 0) && f x y) else (decide (y' ∈ R) && f x y')
  n : out.length ≤ R.length * M + k

theorem RF.start {f : Int → Int → Bool} {M : Nat} : RF f [] M [] := ⟨rfl, fun r h => (by cases h), fun x y => by simp [has_nil], by simp⟩
section
variable {f : Int → Int → Bool} {R : List Int} {M : Nat} {y : Int} {bs : List Int} {k : Nat} {out : List Rn}
theorem RF.begin (H : RF f R M out) (hR : ∀ z ∈ R, z < y) (hb : BordF f y bs) (hl : 0 < bs.length) : JF f R M y bs 0 out := by
  refine ⟨H.v, fun r hr => .inl (H.r r hr), fun r hr => .inl (hR _ (H.r r hr)), fun x y' => ?_, H.n⟩
  by_cases e : y' = y
  · subst e
    rw [if_pos rfl, H.s]
    have : ¬ y' ∈ R := fun h => by have := hR _ h; omega
    rw [decide_eq_false this, Bool.false_and]
    by_cases hx : x < bs.getD 0 0
    · rw [getD_at hl] at hx
      rw [hb.lo hl _ hx, Bool.and_false]
    · rw [decide_eq_false hx, Bool.false_and]
  · rw [if_neg e, H.s]
theorem JF.skip (H : JF f R M y bs k out) (hb : BordF f y bs) (hk : k + 1 < bs.length) (hn : f bs[k] y = false) : JF f R M y bs (k + 1) out := by
  have h1 := sorted_lt hb.s (by omega) hk (Nat.lt_succ_self k)
  refine ⟨H.v, H.r, fun r hr => ?_, fun x y' => ?_, by have := H.n; omega⟩
  · have := H.e r hr
    rw [getD_at (by omega)] at this
    rw [getD_at hk]
    omega
  · rw [H.s]
    by_cases e : y' = y
    · rw [if_pos e, if_pos e, getD_at (by omega), getD_at hk]
      by_cases hx : x < bs[k]
      · rw [decide_eq_true hx, decide_eq_true (show x < bs[k + 1] by omega)]
      · rw [decide_eq_false hx, Bool.false_and]
        by_cases hx2 : x < bs[k + 1]
        · rw [hb.c k hk _ (by omega) hx2, hn, Bool.and_false]
        · rw [decide_eq_false hx2, Bool.false_and]
    · rw [if_neg e, if_neg e]
theorem JF.join (H : JF f R M y bs k out) (hb : BordF f y bs) (hk : k + 1 < bs.length) (hpm : ∀ x y, f x y = true → Perm x y) (hn : f bs[k] y = true) : JF f R M y bs (k + 1) (joinR out y bs[k] bs[k + 1]) := by
  have h1 := sorted_lt hb.s (by omega) hk (Nat.lt_succ_self k)
  have p0 := hpm _ _ hn
  have p1 := hpm _ _ ((hb.c k hk (bs[k + 1] - 1) (by omega) (by omega)).trans hn)
  unfold Perm at p0 p1
  have hy : -8192 ≤ y ∧ y ≤ 8191 := p0.2
  have r0 : -8192 ≤ bs[k] ∧ bs[k] ≤ 8192 := by omega
  have r1 : -8192 ≤ bs[k + 1] ∧ bs[k + 1] ≤ 8192 := by omega
  have hE := H.e
  rw [getD_at (show k < bs.length by omega)] at hE
  -- the cells of row y from bs[k] on
  have sem : ∀ x, (decide (x < bs[k + 1]) && f x y) = ((decide (x < bs[k]) && f x y) || decide (bs[k] ≤ x ∧ x < bs[k + 1])) := fun x => by
    by_cases hx : x < bs[k]
    · rw [decide_eq_true hx, decide_eq_true (show x < bs[k + 1] by omega), decide_eq_false (show ¬ (bs[k] ≤ x ∧ x < bs[k + 1]) by omega), Bool.or_false]
    · rw [decide_eq_false hx, Bool.false_and, Bool.false_or]
      by_cases hx2 : x < bs[k + 1]
      · rw [decide_eq_true hx2, Bool.true_and, hb.c k hk _ (by omega) hx2, hn, decide_eq_true (by omega)]
      · rw [decide_eq_false hx2, Bool.false_and, decide_eq_false (by omega)]
  have app : (∀ l, out.getLast? = some l → Bh ⟨y, bs[k], bs[k + 1]⟩ l) → JF f R M y bs (k + 1) (out ++ [⟨y, bs[k], bs[k + 1]⟩]) := fun hl => by
    refine ⟨chkAll_snoc.2 ⟨H.v, ⟨⟨hy, r0, r1⟩, h1⟩, ?_⟩, fun r hr' => ?_, fun r hr' => ?_, fun x y' => ?_, by have := H.n; simp; omega⟩
    · cases e : out.getLast? with
      | none => trivial
      | some l => exact hl l e
    · rcases List.mem_append.1 hr' with hr' | hr'
      · exact H.r r hr'
      · rw [List.mem_singleton] at hr'; subst hr'; exact .inr rfl
    · rw [getD_at hk]
      rcases List.mem_append.1 hr' with hr' | hr'
      · have := hE r hr'; omega
      · rw [List.mem_singleton] at hr'; subst hr'; exact .inr ⟨rfl, Int.le_refl _⟩
    · rw [has_snoc, H.s]
      unfold hasR
      simp only
      rw [getD_at (show k < bs.length by omega), getD_at hk]
      by_cases e : y' = y
      · rw [if_pos e, if_pos e, sem]
        congr 1
        rw [decide_eq_decide]
        omega
      · rw [if_neg e, if_neg e, decide_eq_false (show ¬ (y = y' ∧ bs[k] ≤ x ∧ x < bs[k + 1]) by omega), Bool.or_false]
  unfold joinR
  cases e : out.getLast? with
  | none => exact app (fun l hl => by rw [e] at hl; cases hl)
  | some l =>
    simp only
    have hl := List.mem_of_getLast? e
    by_cases hc : l.y = y ∧ l.b = bs[k]
    · rw [if_pos hc]
      obtain ⟨C, hC⟩ : ∃ C, out = C ++ [l] := by
        rcases List.eq_nil_or_concat out with h | ⟨C, l', h⟩
        · rw [h] at e; cases e
        · rw [List.concat_eq_append] at h
          rw [h] at e
          simp at e
          subst e
          exact ⟨C, h⟩
      subst hC
      rw [setEnd_snoc]
      have hv := chkAll_snoc.1 H.v
      have hlo := hv.2.1
      unfold RnOk RnIn at hlo
      refine ⟨chkAll_snoc.2 ⟨hv.1, ⟨⟨hlo.1.1, hlo.1.2.1, r1⟩, by simp only; omega⟩, ?_⟩, fun r hr' => ?_, fun r hr' => ?_, fun x y' => ?_, by have := H.n; simp at this ⊢; omega⟩
      · have := hv.2.2
        cases e2 : C.getLast? with
        | none => trivial
        | some l2 => rw [e2] at this; exact this
      · rcases List.mem_append.1 hr' with hr' | hr'
        · exact H.r r (List.mem_append_left _ hr')
        · rw [List.mem_singleton] at hr'; subst hr'; exact .inr hc.1
      · rw [getD_at hk]
        rcases List.mem_append.1 hr' with hr' | hr'
        · have := hE r (List.mem_append_left _ hr'); omega
        · rw [List.mem_singleton] at hr'; subst hr'; exact .inr ⟨hc.1, Int.le_refl _⟩
      · have h0 := H.s x y'
        rw [has_snoc] at h0
        rw [has_snoc, getD_at hk]
        rw [getD_at (show k < bs.length by omega)] at h0
        by_cases e3 : y' = y
        · rw [if_pos e3] at h0 ⊢
          rw [sem, ← h0]
          unfold hasR
          simp only
          rw [Bool.or_assoc]
          congr 1
          rw [← Bool.decide_or, decide_eq_decide]
          omega
        · rw [if_neg e3] at h0 ⊢
          rw [← h0]
          unfold hasR
          simp only
          congr 1
          rw [decide_eq_decide]
          omega
    · rw [if_neg hc]
      refine app (fun l' hl' => ?_)
      rw [e] at hl'
      cases hl'
      have := hE l hl
      unfold Bh
      simp only
      omega
theorem JF.finish (H : JF f R M y bs k out) (hb : BordF f y bs) (hk : k + 1 = bs.length) (hM : k ≤ M) : RF f (R ++ [y]) M out := by
  refine ⟨H.v, fun r hr => ?_, fun x y' => ?_, ?_⟩
  · rcases H.r r hr with h | h
    · exact List.mem_append_left _ h
    · rw [h]; simp
  · rw [H.s]
    by_cases e : y' = y
    · subst e
      rw [if_pos rfl, decide_eq_true (show y' ∈ R ++ [y'] by simp), Bool.true_and, getD_at (by omega)]
      by_cases hx : x < bs[k]
      · rw [decide_eq_true hx, Bool.true_and]
      · rw [decide_eq_false hx, Bool.false_and, hb.hi k hk _ (by omega)]
    · rw [if_neg e]
      congr 1
      rw [decide_eq_decide]
      simp [e]
  · have := H.n
    rw [List.length_append, List.length_singleton, Nat.add_mul]
    omega
theorem RF.done (H : RF f R M out) (hR : ∀ x y, f x y = true → y ∈ R) : chk out = 0 ∧ ∀ x y, has out x y = f x y := by
  refine ⟨H.v, fun x y => ?_⟩
  rw [H.s]
  cases e : f x y
  · exact Bool.and_false _
  · rw [decide_eq_true (hR x y e)]; rfl
end

end Go.Proofs.Ytldbpabnfjnpbaa
