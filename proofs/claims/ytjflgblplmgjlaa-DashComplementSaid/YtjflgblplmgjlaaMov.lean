/- A region that draws its order, in a round too: a copy that only the tail's end waits for; then operations that read and callees that add new blocks; then operations in a forced order. -/
import Derived.Test.YtjflgblplmgjlaaGtl
namespace Go.Proofs.Ytjflgblplmgjlaa
open Go Go.RowKit
set_option linter.unusedVariables false
set_option linter.unusedSimpArgs false
section
variable {F : Fence} {n : Nat} {P : Program} {ops : Array Oper} {md : Region.Mode} {C : World → Prop}
def sinkM (md : Region.Mode) (ops : Array Oper) (n : Nat) : Bool :=
  (List.range n).all fun i => decide (i = 0) || (List.range (n + 1)).any fun j => decide (i < j) && Region.waitsFor md ops j i
structure HInv (md : Region.Mode) (ops : Array Oper) (k : Nat) (listed : Array Bool) : Prop where
  h : HeadInv md ops k listed
  lm : listed.getD 0 false = true
theorem HInv.set {k i : Nat} {listed : Array Bool} (inv : HInv md ops k listed) (hi : i ∈ Region.ready md ops listed) (hin : i < k) : HInv md ops k (listed.setIfInBounds i true) :=
  ⟨inv.h.set hi hin, getD_set_true inv.lm⟩
theorem tail_waitsM {n : Nat} {listed : Array Bool} (hs : sinkM md ops n = true) (hc : Region.chainB md ops n = true) (hn : n < ops.size) (inv : HInv md ops n listed) :
    ∀ (d i : Nat), n - i = d → i < n → listed.getD i true = false → ∀ t, n ≤ t → t ∉ Region.ready md ops listed := by
  intro d
  induction d using Nat.strongRecOn with
  | _ d ih =>
    intro i hd hi hun t ht hr
    obtain ⟨_, ot, hot, hall⟩ := mem_ready.1 hr
    have htlt : t < ops.size := (Array.getElem?_eq_some_iff.1 hot).1
    have hi0 : i ≠ 0 := fun e => by
      have h1 := inv.lm
      rw [e] at hun
      rw [getD_both hun] at h1
      cases h1
    by_cases htn : t = n
    · subst htn
      have h1 := List.all_eq_true.1 hs i (List.mem_range.2 hi)
      simp only [Bool.or_eq_true, decide_eq_true_eq] at h1
      replace h1 := h1.resolve_left hi0
      obtain ⟨j, hj, hj2⟩ := List.any_eq_true.1 h1
      simp only [Bool.and_eq_true, decide_eq_true_eq] at hj2
      obtain ⟨oj, hoj, e, he, hb, hon⟩ := Region.waitsFor_spec hj2.2
      have hjle : j ≤ t := by have := List.mem_range.1 hj; omega
      by_cases hjt : j = t
      · subst hjt
        have : oj = ot := Option.some.inj (hoj.symm.trans hot)
        subst this
        have h2 := hall e he hb
        rw [hon, getD_both hun] at h2
        cases h2
      · cases hl : listed.getD j false with
        | true =>
          have h2 := inv.h.closed j oj hoj hl e he hb
          rw [hon, getD_both hun] at h2
          cases h2
        | false =>
          have hjs : j < listed.size := by rw [inv.h.size]; omega
          exact ih (t - j) (by omega) j rfl (by omega) (getD_in hjs hl) t (Nat.le_refl _) hr
    · have h1 := List.all_eq_true.1 hc t (List.mem_range.2 htlt)
      simp only [Bool.or_eq_true, decide_eq_true_eq] at h1
      rcases h1 with h1 | h1
      · omega
      · obtain ⟨o', ho', e, he, hb, hon⟩ := Region.waitsFor_spec h1
        have : o' = ot := Option.some.inj (ho'.symm.trans hot)
        subst this
        have h2 := hall e he hb
        rw [hon, getD_both (inv.h.tail (t - 1) (by omega) (by omega))] at h2
        cases h2
theorem wpAnyLQ_firstM {k i : Nat} {oi : Oper} {v : Value} {L : Array Bool → Act → Prop} (hi : ops[i]? = some oi) (hsel : ∀ (j : Nat) (o : Oper) cs b, ops[j]? = some o → o.op ≠ .select cs b)
    (hs : sinkM md ops k = true) (hc : Region.chainB md ops k = true) (hn : k < ops.size) (hin : i < k)
    (hdone : ∀ listed a, L listed a → ∀ j ∈ Region.ready md ops listed, k ≤ j) :
    ∀ (f : Nat) (listed : Array Bool) (a : Act), HInv md ops k listed →
      (∀ j oj, ops[j]? = some oj → j ≠ i → listed.getD j true = false → (∀ e ∈ oj.after, Region.binds md e = true → e.on ≠ i) → oi.apart ops oj = true) →
      i ∈ Region.ready md ops listed → YieldsQuiet F n P ops C oi v a →
      wpAnyLQ F n P md ops C k L f (listed.setIfInBounds i true) (a.put oi.dst v) → wpAnyLQ F n P md ops C k L (f + 1) listed a := by
  intro f
  induction f with
  | zero =>
    intro listed a inv _ hr hy H
    have hun := (mem_ready.1 hr).1
    refine ⟨fun h => (by rw [h] at hr; cases hr), fun j hj => ?_⟩
    have hjn : j < k := by
      rcases Nat.lt_or_ge j k with h | h
      · exact h
      · exact absurd hj (tail_waitsM hs hc hn inv _ i rfl hin hun j h)
    refine ⟨hjn, ?_⟩
    by_cases hji : j = i
    · subst hji; exact hy.qOpIn hi H
    · have := hdone _ _ H j (ready_mono hj hji)
      omega
  | succ f ih =>
    intro listed a inv hfree hr hy H
    have hun := (mem_ready.1 hr).1
    refine ⟨fun h => (by rw [h] at hr; cases hr), fun j hj => ?_⟩
    have hjn : j < k := by
      rcases Nat.lt_or_ge j k with h | h
      · exact h
      · exact absurd hj (tail_waitsM hs hc hn inv _ i rfl hin hun j h)
    refine ⟨hjn, ?_⟩
    by_cases hji : j = i
    · subst hji; exact hy.qOpIn hi H
    · have h1 := (H.2 j (ready_mono hj hji)).2
      obtain ⟨hjun, oj, hoj, hall⟩ := mem_ready.1 hj
      have hnot : ∀ e ∈ oj.after, Region.binds md e = true → e.on ≠ i := fun e he hb heq => by
        have h1 := hall e he hb
        rw [heq, getD_both hun] at h1
        cases h1
      have h2 := qOpIn_put hoj (hfree j oj hoj hji hjun hnot) (fun cs b => hsel i oi cs b hi) (fun cs b => hsel j oj cs b hoj) hy h1
      have hfree' : ∀ q ok, ops[q]? = some ok → q ≠ i → (listed.setIfInBounds j true).getD q true = false →
          (∀ e ∈ ok.after, Region.binds md e = true → e.on ≠ i) → oi.apart ops ok = true := fun q ok hk hki hun hno => by
        refine hfree q ok hk hki ?_ hno
        by_cases hjk : j = q
        · subst hjk; exact hjun
        · rw [getD_set_ne true hjk] at hun; exact hun
      refine qOpIn_mono (fun a' h3 => ih (listed.setIfInBounds j true) a' (inv.set hj hjn) hfree' (ready_mono hr (Ne.symm hji)) h3.1 ?_) h2
      rw [Array.setIfInBounds_comm _ _ hji]
      exact h3.2
theorem wpAnyLQ_lexM {k g : Nat} {Lq : Act → Prop} (hsel : Region.noSelect ops = true) (hs : sinkM md ops k = true) (hc : Region.chainB md ops k = true) (hn : k < ops.size) :
    ∀ (l : List Oper) (q : Nat) (listed : Array Bool) (a : Act), (∀ j, j < l.length → l[j]? = ops[q + j]?) → q + l.length = k → HInv md ops k listed →
    Region.lexHead md ops g l.length q listed = true → wpQuietIn F n P ops C Lq l a →
    wpAnyLQ F n P md ops C k (fun listed' a' => Region.seqB md ops g k listed' = true ∧ Lq a') l.length listed a
  | [], q, listed, a, _, hk, _, hB, h => by
    have : q = k := by simpa using hk
    subst this
    exact ⟨by simpa [Region.lexHead] using hB, h⟩
  | o :: l, q, listed, a, hl, hk, inv, hB, h => by
    have h0 : ops[q]? = some o := by simpa using (hl 0 (by simp)).symm
    simp only [List.length_cons, Region.lexHead, Bool.and_eq_true] at hB
    obtain ⟨⟨hr, hf⟩, hB'⟩ := hB
    have hkn : q < k := by simp only [List.length_cons] at hk; omega
    have hr' : q ∈ Region.ready md ops listed := by simpa using hr
    have hst : qOpIn F n P ops C q (wpQuietIn F n P ops C Lq l) a := by unfold qOpIn; simp only [h0]; exact h
    obtain ⟨v, hy, hK⟩ := yieldsQuiet_of_qOpIn h0 hst
    exact wpAnyLQ_firstM h0 (Region.noSelect_spec hsel) hs hc hn hkn (fun listed' a' hL => seqB_ready hL.1) l.length listed a inv (Region.free_spec h0 hf) hr' hy
      (wpAnyLQ_lexM hsel hs hc hn l (q + 1) _ _ (fun j hj => by have := hl (j + 1) (by simp; omega); simpa [Nat.add_assoc, Nat.add_comm 1 j] using this) (by simp only [List.length_cons] at hk; omega) (inv.set hr' hkn) hB' hK)
/-- Ends in no panic. -/
def nOnly (R : Act → World → Prop) : Exit → Act → World → Prop
  | .normal, a, w => R a w
  | _, _, _ => False
def lexTailM (md : Region.Mode) (ops : Array Oper) (k : Nat) : Bool :=
  Region.noSelect ops && decide (0 < k) && decide (k < ops.size) && sinkM md ops k && Region.chainB md ops k && (Region.ready md ops (Array.replicate ops.size false)).contains 0 && Region.free md ops (Array.replicate ops.size false) 0 &&
    (match ops[0]? with | some o => o.after.all (fun e => !Region.binds md e) | none => false) && Region.lexHead md ops (ops.size - k) (k - 1) 1 ((Array.replicate ops.size false).setIfInBounds 0 true)
theorem grow_tailM {id : Nat} {Q : Exit → Act → World → Prop} {R : Act → World → Prop} {a : Act} {w : World} {l : List Oper} (k : Nat) (om : Oper) (v : Value) (hro : F.round = none) (hnd : noDefer l.toArray = true) (hm : P.follows .mixedOrders = true)
    (hB : lexTailM .any l.toArray k = true) (hom : l.toArray[0]? = some om) (hy : YieldsFenced P l.toArray om v a) (hQ : ∀ a w, R a w → Q .normal a w)
    (h : wpQuietIn F n P l.toArray (fun w' => Below w.heap.size w w') (fun a' => ∀ w', Below w.heap.size w w' → wpListIn F n P l.toArray (nOnly R) (l.drop k) a' w') ((l.take k).drop 1) (a.put om.dst v)) : (Code.region id l.toArray true).wpIn F n P Q a w := by
  simp only [lexTailM, Bool.and_eq_true, decide_eq_true_eq] at hB
  obtain ⟨⟨⟨⟨⟨⟨⟨⟨hsel, hk0⟩, hkl⟩, hs⟩, hc⟩, hrm⟩, hfm⟩, haf⟩, hlex⟩ := hB
  have hk' : k < l.length := by simpa using hkl
  have htk : ((l.take k).drop 1).length = k - 1 := by simp; omega
  have hdl : (l.drop k).length = l.toArray.size - k := by simp
  have inv0 : HInv .any l.toArray k ((Array.replicate l.toArray.size false).setIfInBounds 0 true) := by
    refine ⟨⟨by simp, fun j oj hj hl e he hb => ?_, fun t ht hts => ?_⟩, ?_⟩
    · by_cases hmj : 0 = j
      · subst hmj
        have : oj = om := Option.some.inj (hj.symm.trans hom)
        subst this
        rw [hom] at haf
        have h1 := Array.all_eq_true_iff_forall_mem.1 haf e he
        rw [hb] at h1
        cases h1
      · rw [getD_set_ne false hmj, getD_replicate_false] at hl
        cases hl
    · rw [getD_set_ne true (by omega)]
      exact getD_in (by simpa using hts) (getD_replicate_false _ _)
    · simp [Array.getD_eq_getD_getElem?, Array.getElem?_setIfInBounds, show 0 < l.length by omega]
  have H := wpAnyLQ_lexM (F := F) (n := n) (P := P) (C := fun w' => Below w.heap.size w w') (Lq := fun a' => ∀ w', Below w.heap.size w w' → wpListIn F n P l.toArray (nOnly R) (l.drop k) a' w') (md := .any) (g := l.toArray.size - k) hsel hs hc hkl ((l.take k).drop 1) 1 _ (a.put om.dst v) (fun j hj => by
    have hj' : j < k - 1 := by rw [htk] at hj; exact hj
    rw [List.getElem?_drop, List.getElem?_take_of_lt (by omega)]
    simp) (by rw [htk]; omega) inv0 (by rw [htk]; exact hlex) h
  refine Code.wpIn_mono (Q := nOnly R) (fun e a w hh => by cases e <;> first | exact hQ _ _ hh | exact hh.elim) ?_
  refine wpIn_region_any hm ?_
  have := wpAnyIn_of_headQ (F := F) (n := n) (Q' := nOnly R) (g := l.toArray.size - k) hnd (fun listed a' w' hC hL => by
    have := wpAnyIn_of_seq (F := F) (n := n) (md := .any) (Q' := nOnly R) (l.drop k) k listed a' w' (fun j => by simp [List.getElem?_drop]) (by rw [hdl]; exact hL.1) (hL.2 w' hC)
    rwa [hdl] at this) _ _ _ _ (Below.refl _ w).drew H
  rw [htk] at this
  have e : l.toArray.size = (k - 1 + (l.toArray.size - k)) + 1 := by omega
  have take := wpAnyIn_take (F := F) (n := n) (P := P) (Q := nOnly R) (md := .any) (fuel := k - 1 + (l.toArray.size - k)) (listed := Array.replicate l.toArray.size false) (a := a) (w := w.drew) hro hom hsel hfm hrm (fun c a w hh => hh.elim) hy this
  rw [← e] at take
  exact take
end
end Go.Proofs.Ytjflgblplmgjlaa
