/- A region that draws its order: operations that read, a literal's block with one point, an append of it to a row of the call's own, a store of the slice. -/
import Derived.Test.YtjflgblplmgjlaaKfw
import Derived.Test.YtjflgblplmgjlaaTabJ
namespace Go.Proofs.Ytjflgblplmgjlaa
open Go Go.RowKit
set_option linter.unusedVariables false
set_option linter.unusedSimpArgs false

/-- One waits for the other, in at most n steps. -/
def reach (dep : List (Nat × Nat)) : Nat → Nat → Nat → Bool
  | 0, a, i => Nat.beq a i
  | n + 1, a, i => Nat.beq a i || dep.any fun q => Nat.beq q.1 a && reach dep n q.2 i
theorem reach_on {dep : List (Nat × Nat)} {L : Nat → Bool} (hd : ∀ q ∈ dep, L q.1 = true → L q.2 = true) : ∀ (n a i : Nat), reach dep n a i = true → L a = true → L i = true
  | 0, a, i, h, ha => by have := Nat.eq_of_beq_eq_true h; exact this ▸ ha
  | n + 1, a, i, h, ha => by
    unfold reach at h
    rcases Bool.or_eq_true_iff.1 h with h | h
    · have := Nat.eq_of_beq_eq_true h; exact this ▸ ha
    · obtain ⟨q, hq, h2⟩ := List.any_eq_true.1 h
      obtain ⟨h3, h4⟩ := Bool.and_eq_true_iff.1 h2
      have h5 := Nat.eq_of_beq_eq_true h3
      exact reach_on hd n q.2 i h4 (hd q hq (h5.symm ▸ ha))
/-- The list tells of operation i no more than its edges. -/
def edgesOk (dep : List (Nat × Nat)) (i : Nat) (af : Array Edge) : Bool := dep.all fun q => !(Nat.beq q.1 i) || af.toList.any fun e => Nat.beq e.on q.2 && Region.binds .any e
theorem edges_on {dep : List (Nat × Nat)} {i : Nat} {af : Array Edge} {L : Nat → Bool} (h : edgesOk dep i af = true) (hdep : ∀ e ∈ af, Region.binds .any e = true → L e.on = true) : ∀ q ∈ dep, q.1 = i → L q.2 = true := by
  intro q hq hi
  have h1 := List.all_eq_true.1 h q hq
  rw [hi, Nat.beq_refl] at h1
  simp only [Bool.not_true, Bool.false_or] at h1
  obtain ⟨e, he, h2⟩ := List.any_eq_true.1 h1
  obtain ⟨h3, h4⟩ := Bool.and_eq_true_iff.1 h2
  exact Nat.eq_of_beq_eq_true h3 ▸ hdep e (by simpa using he) h4

/-- oc, oa, os: the numbers of the literal, the append, the store; fc, fa: their slots; the slice is stored at A. -/
structure MK (W : World) (B : Nat) (vo : Value) (xs : List P2) (s : P2) (A : Addr) (oc oa os fc fa : Nat) (dep : List (Nat × Nat)) (L : Nat → Bool) (f : Nat → Value) (w : World) : Prop where
  b : L oa = false → Below W.heap.size W w
  c : L oc = true → L oa = false → ∃ w1, Below W.heap.size W w1 ∧ w = w1.alloc (.cells (pcel s) 37) ∧ f fc = .slice (some ⟨w1.heap.size, 0, none⟩) 1 1
  e : L oa = true → L os = false → ∃ w1, Below W.heap.size W w1 ∧ OwnP w B (f fa) (xs ++ [s]) ∧ Gr vo (f fa) w1 w
  s : L os = true → ∃ w1 wa, Below W.heap.size W w1 ∧ OwnP wa B (f fa) (xs ++ [s]) ∧ Gr vo (f fa) w1 wa ∧ w = wa.setCell A (f fa)
  d : ∀ q ∈ dep, L q.1 = true → L q.2 = true

section
variable {W w w' : World} {B : Nat} {vo : Value} {xs : List P2} {s : P2} {A : Addr} {oc oa os fc fa : Nat} {dep : List (Nat × Nat)} {L : Nat → Bool} {f : Nat → Value} {i d : Nat}
theorem MK.start : MK W B vo xs s A oc oa os fc fa dep (fun _ => false) f W.drew :=
  ⟨fun _ => (Below.refl _ W).drew, fun h => (by cases h), fun h => (by cases h), fun h => (by cases h), fun _ _ h => (by cases h)⟩
theorem MK.pre (h : MK W B vo xs s A oc oa os fc fa dep L f w) (hL : L i = false) (hd : reach dep 12 oa i = true) : L oa = false := by
  cases e : L oa
  · rfl
  · rw [reach_on h.d 12 oa i hd e] at hL; cases hL
theorem MK.old (h : MK W B vo xs s A oc oa os fc fa dep L f w) (hL : L i = false) (hd : reach dep 12 oa i = true) : Below W.heap.size W w := h.b (h.pre hL hd)
/-- A value: the memory stays. -/
theorem MK.next {v : Value} (h : MK W B vo xs s A oc oa os fc fa dep L f w) (hi : (Nat.beq oc i || Nat.beq oa i || Nat.beq os i || Nat.beq fc d || Nat.beq fa d) = false) (hdp : ∀ q ∈ dep, q.1 = i → L q.2 = true) : MK W B vo xs s A oc oa os fc fa dep (Iv.mark L i) (upd f d v) w := by
  simp only [Bool.or_eq_false_iff] at hi
  obtain ⟨⟨⟨⟨h1, h2⟩, h3⟩, h4⟩, h5⟩ := hi
  have ne : ∀ {a b : Nat}, Nat.beq a b = false → a ≠ b := fun h e => by rw [e, Nat.beq_refl] at h; cases h
  have e1 : Iv.mark L i oc = L oc := mark_ne (ne h1)
  have e2 : Iv.mark L i oa = L oa := mark_ne (ne h2)
  have e3 : Iv.mark L i os = L os := mark_ne (ne h3)
  have e4 : upd f d v fc = f fc := upd_ne f v (ne h4)
  have e5 : upd f d v fa = f fa := upd_ne f v (ne h5)
  refine ⟨fun k => h.b (by rwa [e2] at k), fun k k' => ?_, fun k k' => ?_, fun k => ?_, fun q hq k => ?_⟩
  · rw [e4]; exact h.c (by rwa [e1] at k) (by rwa [e2] at k')
  · rw [e5]; exact h.e (by rwa [e2] at k) (by rwa [e3] at k')
  · rw [e5]; exact h.s (by rwa [e3] at k)
  · by_cases e : q.1 = i
    · exact mark_le (hdp q hq e)
    · rw [mark_ne e] at k; exact mark_le (h.d q hq k)
end

section
variable {ops : Array Oper} {S : List (Option Nat)} {V : List Value} {F : List (Nat × Value)} {W : World} {B n i : Nat} {vo : Value} {xs : List P2} {s : P2} {A : Addr} {oc oa os fc fa : Nat} {dep : List (Nat × Nat)} {d : Tmp} {op : Op} {ty : TypeId} {pos : String} {af : Array Edge}
theorem mk_val {v : Value} (hd : Nat.blt d n = true) (hs : slotAt S i = some d) (hfr : fresh S (F.map Prod.fst) i d = true)
    (hi : (Nat.beq oc i || Nat.beq oa i || Nat.beq os i || Nat.beq fc d || Nat.beq fa d) = false) (hE : edgesOk dep i af = true) (hv : v = valAt V i)
    (hrun : ∀ L f w, L i = false → (∀ e ∈ af, Region.binds .any e = true → L e.on = true) → TJ S V F (MK W B vo xs s A oc oa os fc fa dep) L f w → (execOp (env f) { dst := some d, op := op, type := ty, pos := pos, after := af, guard := none }).run Try.prog w = .ok (.value v) w) :
    Iv.StepOk Try.prog ops n (TJ S V F (MK W B vo xs s A oc oa os fc fa dep)) i { dst := some d, op := op, type := ty, pos := pos, after := af, guard := none } :=
  ⟨fun d' h => (by cases h; simpa using hd), fun L f w hL hdep H => ⟨fun _ => (by
    rw [hrun L f w hL hdep H]
    exact H.step (.inr ⟨hs, hv⟩) hfr (H.m.next hi (edges_on hE hdep))), fun h => (by cases h)⟩⟩
/-- A call that leaves the memory. -/
theorem mk_fn {v : Value} {g : FuncId} (hd : Nat.blt d n = true) (hs : slotAt S i = some d) (hfr : fresh S (F.map Prod.fst) i d = true)
    (hi : (Nat.beq oc i || Nat.beq oa i || Nat.beq os i || Nat.beq fc d || Nat.beq fa d) = false) (hE : edgesOk dep i af = true) (hv : v = valAt V i)
    (hrun : ∀ L f w, L i = false → (∀ e ∈ af, Region.binds .any e = true → L e.on = true) → TJ S V F (MK W B vo xs s A oc oa os fc fa dep) L f w → ∃ args, (execOp (env f) { dst := some d, op := op, type := ty, pos := pos, after := af, guard := none }).run Try.prog w = .ok (.enter g args) w ∧ Calls Try.prog g args w fun e w' => e = .returned v ∧ w = w') :
    Iv.StepOk Try.prog ops n (TJ S V F (MK W B vo xs s A oc oa os fc fa dep)) i { dst := some d, op := op, type := ty, pos := pos, after := af, guard := none } := by
  refine ⟨fun d' h => by cases h; simpa using hd, fun L f w hL hdep H => ⟨fun _ => ?_, fun h => by cases h⟩⟩
  obtain ⟨args, h1, h2⟩ := hrun L f w hL hdep H
  rw [h1]
  exact h2.mono fun e w' ⟨he, hb⟩ => ⟨v, he, hb ▸ H.step (.inr ⟨hs, hv⟩) hfr (H.m.next hi (edges_on hE hdep))⟩
/-- The literal. -/
theorem mk_lit (hd : Nat.blt d n = true) (hs : slotAt S i = none) (hfr : fresh S (F.map Prod.fst) i d = true) (hi : oc = i) (hf : fc = d) (ha : Nat.beq oa i = false) (hst : Nat.beq os i = false) (hfa : Nat.beq fa d = false)
    (hao : (oa, oc) ∈ dep) (hso : (os, oa) ∈ dep) (hE : edgesOk dep i af = true)
    (hrun : ∀ L f w, L i = false → (∀ e ∈ af, Region.binds .any e = true → L e.on = true) → TJ S V F (MK W B vo xs s A oc oa os fc fa dep) L f w → (execOp (env f) { dst := some d, op := op, type := ty, pos := pos, after := af, guard := none }).run Try.prog w = .ok (.value (.slice (some ⟨w.heap.size, 0, none⟩) 1 1)) (w.alloc (.cells (pcel s) 37))) :
    Iv.StepOk Try.prog ops n (TJ S V F (MK W B vo xs s A oc oa os fc fa dep)) i { dst := some d, op := op, type := ty, pos := pos, after := af, guard := none } := by
  subst hi hf
  have ne : ∀ {a b : Nat}, Nat.beq a b = false → a ≠ b := fun h e => by rw [e, Nat.beq_refl] at h; cases h
  refine tj_any hd hs hfr fun L f w hL hdep H => ?_
  have hoa : L oa = false := by
    cases e : L oa
    · rfl
    · rw [H.m.d _ hao e] at hL; cases hL
  have hos : L os = false := by
    cases e : L os
    · rfl
    · rw [H.m.d _ hso e] at hoa; cases hoa
  refine ⟨_, _, hrun L f w hL hdep H, fun _ => (H.m.b hoa).alloc (H.m.b hoa).size _, fun _ _ => ⟨w, H.m.b hoa, rfl, by rw [upd_at]⟩, fun k => ?_, fun k => ?_, fun q hq k => ?_⟩
  · rw [mark_ne (ne ha), hoa] at k; cases k
  · rw [mark_ne (ne hst), hos] at k; cases k
  · by_cases e : q.1 = oc
    · exact mark_le (edges_on hE hdep q hq e)
    · rw [mark_ne e] at k; exact mark_le (H.m.d q hq k)
/-- The append. -/
theorem mk_app {x y : Operand} (hd : Nat.blt d n = true) (hs : slotAt S i = none) (hfr : fresh S (F.map Prod.fst) i d = true) (hi : oa = i) (hf : fa = d) (hst : Nat.beq os i = false) (hfc : Nat.beq fc d = false)
    (hl : xs.length ≤ 5000000000) (hB : B ≤ W.heap.size) (hso : (os, oa) ∈ dep) (haf : ∃ e ∈ af, Region.binds .any e = true ∧ e.on = oc) (hE : edgesOk dep i af = true)
    (hop : op = .call { callee := .builtin .append, args := #[x, y], argTypes := #[25, 25] }) (hown : OwnP W B vo xs) (hy : y = .tmp fc)
    (hx : ∀ L f w, (∀ e ∈ af, Region.binds .any e = true → L e.on = true) → TJ S V F (MK W B vo xs s A oc oa os fc fa dep) L f w → env f x = vo) :
    Iv.StepOk Try.prog ops n (TJ S V F (MK W B vo xs s A oc oa os fc fa dep)) i { dst := some d, op := op, type := ty, pos := pos, after := af, guard := none } := by
  subst hi hf hop hy
  have ne : ∀ {a b : Nat}, Nat.beq a b = false → a ≠ b := fun h e => by rw [e, Nat.beq_refl] at h; cases h
  refine tj_any hd hs hfr fun L f w hL hdep H => ?_
  obtain ⟨e, he, hb, hon⟩ := haf
  have hc : L oc = true := hon ▸ hdep e he hb
  have hos : L os = false := by
    cases e : L os
    · rfl
    · rw [H.m.d _ hso e] at hL; cases hL
  obtain ⟨w1, hb1, rfl, hg⟩ := H.m.c hc hL
  obtain ⟨v', w', h1, h2, h3⟩ := append_pt (ty := ty) (s := s) (Nat.le_trans hB hb1.size) (hown.next hb1) hl
  have hxv := hx L f _ hdep H
  have hyv : env f (.tmp fc) = .slice (some ⟨w1.heap.size, 0, none⟩) 1 1 := hg
  refine ⟨v', w', ?_, fun k => ?_, fun _ k => ?_, fun _ _ => ⟨w1, hb1, by rw [upd_at]; exact h2, by rw [upd_at]; exact h3⟩, fun k => ?_, fun q hq k => ?_⟩
  · simp [execOp, resolve, invoke, builtin, hxv, hyv, h1]
  · rw [show Iv.mark L oa oa = true by unfold Iv.mark; rw [Nat.beq_refl]; rfl] at k; cases k
  · rw [show Iv.mark L oa oa = true by unfold Iv.mark; rw [Nat.beq_refl]; rfl] at k; cases k
  · rw [mark_ne (ne hst), hos] at k; cases k
  · by_cases e : q.1 = oa
    · exact mark_le (edges_on hE hdep q hq e)
    · rw [mark_ne e] at k; exact mark_le (H.m.d q hq k)
/-- The store. -/
theorem mk_store {x y : Operand} {t : TypeId} (hs : slotAt S i = none) (hi : os = i) (ha : Nat.beq oa i = false) (haf : ∃ e ∈ af, Region.binds .any e = true ∧ e.on = oa) (hE : edgesOk dep i af = true)
    (hop : op = .store t x y) (hy : y = .tmp fa) (hx : ∀ L f w, (∀ e ∈ af, Region.binds .any e = true → L e.on = true) → TJ S V F (MK W B vo xs s A oc oa os fc fa dep) L f w → env f x = .pointer (some A))
    (hrun : ∀ (ρ : Operand → Value) w1 w v, Below W.heap.size W w1 → OwnP w B v (xs ++ [s]) → Gr vo v w1 w → ρ x = .pointer (some A) → ρ (.tmp fa) = v → (execOp ρ { dst := none, op := .store t x (.tmp fa), type := ty, pos := pos, after := af, guard := none }).run Try.prog w = .ok .skip (w.setCell A v)) :
    Iv.StepOk Try.prog ops n (TJ S V F (MK W B vo xs s A oc oa os fc fa dep)) i { dst := none, op := op, type := ty, pos := pos, after := af, guard := none } := by
  subst hi hop hy
  have ne : ∀ {a b : Nat}, Nat.beq a b = false → a ≠ b := fun h e => by rw [e, Nat.beq_refl] at h; cases h
  refine tj_store hs fun L f w hL hdep H => ?_
  obtain ⟨e, he, hb, hon⟩ := haf
  have hA : L oa = true := hon ▸ hdep e he hb
  obtain ⟨w1, hb1, ho, hg⟩ := H.m.e hA hL
  refine ⟨_, hrun (env f) w1 w (f fa) hb1 ho hg (hx L f w hdep H) rfl, fun k => ?_, fun _ k => ?_, fun _ k => ?_, fun _ => ⟨w1, w, hb1, ho, hg, rfl⟩, fun q hq k => ?_⟩
  · rw [mark_ne (ne ha), hA] at k; cases k
  · rw [mark_ne (ne ha), hA] at k; cases k
  · rw [show Iv.mark L os os = true by unfold Iv.mark; rw [Nat.beq_refl]; rfl] at k; cases k
  · by_cases e : q.1 = os
    · exact mark_le (edges_on hE hdep q hq e)
    · rw [mark_ne e] at k; exact mark_le (H.m.d q hq k)
end

end Go.Proofs.Ytjflgblplmgjlaa
