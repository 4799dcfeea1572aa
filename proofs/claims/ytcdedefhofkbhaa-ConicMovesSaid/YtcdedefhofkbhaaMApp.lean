/- A region that draws its order and holds: a call that returns a new row of points, an append of it to a row of the call's own, a store of the slice. -/
import Derived.Test.YtcdedefhofkbhaaApd
import Derived.Test.YtcdedefhofkbhaaNew
namespace Go.Proofs.Ytcdedefhofkbhaa
open Go Go.RowKit
set_option linter.unusedVariables false
set_option linter.unusedSimpArgs false

section
variable {P : Program} {ops : Array Oper} {S : List (Option Nat)} {V : List Value} {F : List (Nat × Value)} {M : (Nat → Bool) → (Nat → Value) → World → Prop}
/-- A call whose value the table doesn't have. -/
theorem tj_callx {n i : Nat} {d : Tmp} {g : FuncId} {op : Op} {ty : TypeId} {pos : String} {af : Array Edge} (hd : Nat.blt d n = true) (hs : slotAt S i = none) (hfr : fresh S (F.map Prod.fst) i d = true)
    (hrun : ∀ L f w, L i = false → (∀ e ∈ af, Region.binds .any e = true → L e.on = true) → TJ S V F M L f w → ∃ args, (execOp (env f) { dst := some d, op := op, type := ty, pos := pos, after := af, guard := none }).run P w = .ok (.enter g args) w ∧ Calls P g args w fun e w' => ∃ v, e = .returned v ∧ M (Iv.mark L i) (upd f d v) w') :
    Iv.StepOk P ops n (TJ S V F M) i { dst := some d, op := op, type := ty, pos := pos, after := af, guard := none } := by
  refine ⟨fun d' h => by cases h; simpa using hd, fun L f w hL hdep H => ⟨fun _ => ?_, fun h => by cases h⟩⟩
  obtain ⟨args, h1, h2⟩ := hrun L f w hL hdep H
  rw [h1]
  exact h2.mono fun e w' ⟨v, he, hm⟩ => ⟨v, he, H.step (.inl hs) hfr hm⟩
end

/-- What the append has left. -/
structure AppRes (W : World) (B : Nat) (vo : Value) (xs ys : List P2) (w : World) (v : Value) : Prop where
  f : ∃ g c, v = .slice (some ⟨g, 0, none⟩) (xs.length + ys.length) c ∧ (vo.ownBlock = some g ∨ W.heap.size ≤ g) ∧ g < w.heap.size
  o : w.ownsRow B 23 2 v (xs.length + ys.length) (pfl (xs ++ ys))
  g : W.grownBy w vo.ownBlock
/-- oc, oa, os: the numbers of the call, the append, the store; fc, fa: their slots; the slice is stored at A. -/
structure MApp (W : World) (B : Nat) (vo : Value) (xs ys : List P2) (A : Addr) (oc oa os fc fa : Nat) (dep : List (Nat × Nat)) (L : Nat → Bool) (f : Nat → Value) (w : World) : Prop where
  b : L oa = false → Below W.heap.size W w
  c : L oc = true → L oa = false → ∃ g c, f fc = .slice (some ⟨g, 0, none⟩) ys.length c ∧ W.heap.size ≤ g ∧ g < w.heap.size ∧ Row2 w g ys
  e : L oa = true → L os = false → AppRes W B vo xs ys w (f fa)
  s : L os = true → ∃ wa, AppRes W B vo xs ys wa (f fa) ∧ w = wa.setCell A (f fa)
  d : ∀ q ∈ dep, L q.1 = true → L q.2 = true

section
variable {W w w' : World} {B : Nat} {vo : Value} {xs ys : List P2} {A : Addr} {oc oa os fc fa : Nat} {dep : List (Nat × Nat)} {L : Nat → Bool} {f : Nat → Value} {i d : Nat}
theorem MApp.start : MApp W B vo xs ys A oc oa os fc fa dep (fun _ => false) f W.drew :=
  ⟨fun _ => (Below.refl _ W).drew, fun h => (by cases h), fun h => (by cases h), fun h => (by cases h), fun _ _ h => (by cases h)⟩
theorem MApp.pre (h : MApp W B vo xs ys A oc oa os fc fa dep L f w) (hL : L i = false) (hd : (oa, i) ∈ dep) : L oa = false := by
  cases e : L oa
  · rfl
  · rw [h.d _ hd e] at hL; cases hL
theorem MApp.old (h : MApp W B vo xs ys A oc oa os fc fa dep L f w) (hL : L i = false) (hd : (oa, i) ∈ dep) : Below W.heap.size W w := h.b (h.pre hL hd)
/-- A value: the memory stays. -/
theorem MApp.next {v : Value} (h : MApp W B vo xs ys A oc oa os fc fa dep L f w) (hi : (Nat.beq oc i || Nat.beq oa i || Nat.beq os i || Nat.beq fc d || Nat.beq fa d || dep.any (fun q => Nat.beq q.1 i)) = false) : MApp W B vo xs ys A oc oa os fc fa dep (Iv.mark L i) (upd f d v) w := by
  simp only [Bool.or_eq_false_iff] at hi
  obtain ⟨⟨⟨⟨⟨h1, h2⟩, h3⟩, h4⟩, h5⟩, h6⟩ := hi
  have ne : ∀ {a b : Nat}, Nat.beq a b = false → a ≠ b := fun h e => by rw [e, Nat.beq_refl] at h; cases h
  have e1 : Iv.mark L i oc = L oc := mark_ne (ne h1)
  have e2 : Iv.mark L i oa = L oa := mark_ne (ne h2)
  have e3 : Iv.mark L i os = L os := mark_ne (ne h3)
  have e4 : upd f d v fc = f fc := upd_ne f v (ne h4)
  have e5 : upd f d v fa = f fa := upd_ne f v (ne h5)
  refine ⟨fun k => h.b (by rwa [e2] at k), fun k k' => ?_, fun k k' => ?_, fun k => ?_, fun q hq k => ?_⟩
  · rw [e4]; exact h.c (by rwa [e1] at k) (by rwa [e2] at k')
  · rw [e5]; exact h.e (by rwa [e2] at k) (by rwa [e3] at k')
  · rw [e5]; exact h.s (by rwa [e3] at k)
  · have hne : q.1 ≠ i := fun e => by
      have := List.any_eq_false.1 h6 q hq
      rw [e, Nat.beq_refl] at this
      exact this rfl
    rw [mark_ne hne] at k
    exact mark_le (h.d q hq k)
end

section
variable {ops : Array Oper} {S : List (Option Nat)} {V : List Value} {F : List (Nat × Value)} {W : World} {B n i : Nat} {vo : Value} {xs ys : List P2} {A : Addr} {oc oa os fc fa : Nat} {dep : List (Nat × Nat)} {d : Tmp} {op : Op} {ty : TypeId} {pos : String} {af : Array Edge}
theorem ma_val {v : Value} (hd : Nat.blt d n = true) (hs : slotAt S i = some d) (hfr : fresh S (F.map Prod.fst) i d = true)
    (hi : (Nat.beq oc i || Nat.beq oa i || Nat.beq os i || Nat.beq fc d || Nat.beq fa d || dep.any (fun q => Nat.beq q.1 i)) = false) (hv : v = valAt V i)
    (hrun : ∀ L f w, L i = false → (∀ e ∈ af, Region.binds .any e = true → L e.on = true) → TJ S V F (MApp W B vo xs ys A oc oa os fc fa dep) L f w → (execOp (env f) { dst := some d, op := op, type := ty, pos := pos, after := af, guard := none }).run Try.prog w = .ok (.value v) w) :
    Iv.StepOk Try.prog ops n (TJ S V F (MApp W B vo xs ys A oc oa os fc fa dep)) i { dst := some d, op := op, type := ty, pos := pos, after := af, guard := none } :=
  tj_val hd hs hfr (fun _ _ _ h => h.next hi) hv hrun
/-- The call. -/
theorem ma_call {g : FuncId} (hd : Nat.blt d n = true) (hs : slotAt S i = none) (hfr : fresh S (F.map Prod.fst) i d = true) (hi : oc = i) (hf : fc = d) (ha : Nat.beq oa i = false) (hst : Nat.beq os i = false) (hfa : Nat.beq fa d = false)
    (hys : 0 < ys.length) (hao : (oa, oc) ∈ dep) (hso : (os, oa) ∈ dep) (hdp : ∀ L : Nat → Bool, (∀ e ∈ af, Region.binds .any e = true → L e.on = true) → ∀ q ∈ dep, q.1 = i → L q.2 = true)
    (hrun : ∀ L f w, L i = false → (∀ e ∈ af, Region.binds .any e = true → L e.on = true) → TJ S V F (MApp W B vo xs ys A oc oa os fc fa dep) L f w → Below W.heap.size W w → ∃ args, (execOp (env f) { dst := some d, op := op, type := ty, pos := pos, after := af, guard := none }).run Try.prog w = .ok (.enter g args) w ∧ Calls Try.prog g args w (GivesPts ys w)) :
    Iv.StepOk Try.prog ops n (TJ S V F (MApp W B vo xs ys A oc oa os fc fa dep)) i { dst := some d, op := op, type := ty, pos := pos, after := af, guard := none } := by
  subst hi hf
  have ne : ∀ {a b : Nat}, Nat.beq a b = false → a ≠ b := fun h e => by rw [e, Nat.beq_refl] at h; cases h
  refine tj_callx (g := g) hd hs hfr fun L f w hL hdep H => ?_
  have hoa : L oa = false := H.m.pre hL hao
  have hos : L os = false := by
    cases e : L os
    · rfl
    · rw [H.m.d _ hso e] at hoa; cases hoa
  obtain ⟨args, h1, h2⟩ := hrun L f w hL hdep H (H.m.b hoa)
  refine ⟨args, h1, h2.mono ?_⟩
  rintro e w' ⟨v, rfl, ho, hb⟩
  obtain ⟨g', c', hv, hge, hlt, hr⟩ := own_row ho hys
  refine ⟨v, rfl, fun _ => below_next (H.m.b hoa) hb, fun _ _ => ⟨g', c', by rw [upd_at]; exact hv, Nat.le_trans (H.m.b hoa).size hge, hlt, hr⟩, fun k => ?_, fun k => ?_, fun q hq k => ?_⟩
  · rw [mark_ne (ne ha), hoa] at k; cases k
  · rw [mark_ne (ne hst), hos] at k; cases k
  · by_cases e : q.1 = oc
    · exact mark_le (hdp L hdep q hq e)
    · rw [mark_ne e] at k; exact mark_le (H.m.d q hq k)
/-- The append. -/
theorem ma_app {x y : Operand} (hd : Nat.blt d n = true) (hs : slotAt S i = none) (hfr : fresh S (F.map Prod.fst) i d = true) (hi : oa = i) (hf : fa = d) (hst : Nat.beq os i = false) (hfc : Nat.beq fc d = false) (hoc : Nat.beq oc i = false)
    (hys : 0 < ys.length) (hl : xs.length + ys.length ≤ 1000000) (hB : B ≤ W.heap.size) (hso : (os, oa) ∈ dep) (haf : ∃ e ∈ af, Region.binds .any e = true ∧ e.on = oc) (hdp : ∀ (L : Nat → Bool), (∀ q ∈ dep, L q.1 = true → L q.2 = true) → (∀ e ∈ af, Region.binds .any e = true → L e.on = true) → ∀ q ∈ dep, q.1 = i → L q.2 = true)
    (hop : op = .call { callee := .builtin .append, args := #[x, y], argTypes := #[27, 27] }) (hown : W.ownsRow B 23 2 vo xs.length (pfl xs)) (hy : y = .tmp fc)
    (hx : ∀ L f w, (∀ e ∈ af, Region.binds .any e = true → L e.on = true) → TJ S V F (MApp W B vo xs ys A oc oa os fc fa dep) L f w → env f x = vo) :
    Iv.StepOk Try.prog ops n (TJ S V F (MApp W B vo xs ys A oc oa os fc fa dep)) i { dst := some d, op := op, type := ty, pos := pos, after := af, guard := none } := by
  subst hi hf hop hy
  have ne : ∀ {a b : Nat}, Nat.beq a b = false → a ≠ b := fun h e => by rw [e, Nat.beq_refl] at h; cases h
  refine tj_any hd hs hfr fun L f w hL hdep H => ?_
  obtain ⟨e, he, hb, hon⟩ := haf
  have hc : L oc = true := hon ▸ hdep e he hb
  have hos : L os = false := by
    cases e : L os
    · rfl
    · rw [H.m.d _ hso e] at hL; cases hL
  obtain ⟨g, c, hg1, hg2, hg3, hr⟩ := H.m.c hc hL
  have hbl := H.m.b hL
  have ho := own_next hown hbl
  obtain ⟨g', c', w', r1, r2, r3, r4, r5⟩ := append_pts (c := c) (ty := ty) (Nat.le_trans hB hbl.size) ho hr rfl hys hl
  refine ⟨_, w', F2.run_append (hx L f w hdep H) hg1 r1, fun k => ?_, fun _ k => ?_, fun _ _ => ?_, fun k => ?_, fun q hq k => ?_⟩
  · rw [show Iv.mark L oa oa = true by unfold Iv.mark; rw [Nat.beq_refl]; rfl] at k; cases k
  · rw [show Iv.mark L oa oa = true by unfold Iv.mark; rw [Nat.beq_refl]; rfl] at k; cases k
  · rw [upd_at]
    refine ⟨⟨g', c', rfl, ?_, r5⟩, r2, ⟨r3.os.trans hbl.os, r3.tape.trans hbl.tape, r3.output.trans hbl.output, Nat.le_trans hbl.size r3.size, fun k hk hne => (r3.block k (Nat.lt_of_lt_of_le hk hbl.size) hne).trans (hbl.block k hk)⟩⟩
    rcases r4 with r4 | r4
    · exact .inl r4
    · exact .inr (by rw [r4]; exact hbl.size)
  · rw [mark_ne (ne hst), hos] at k; cases k
  · by_cases e : q.1 = oa
    · exact mark_le (hdp L H.m.d hdep q hq e)
    · rw [mark_ne e] at k; exact mark_le (H.m.d q hq k)
/-- The store. -/
theorem ma_store {x y : Operand} {t : TypeId} (hs : slotAt S i = none) (hi : os = i) (ha : Nat.beq oa i = false) (hoc : Nat.beq oc i = false) (haf : ∃ e ∈ af, Region.binds .any e = true ∧ e.on = oa) (hdp : ∀ (L : Nat → Bool), (∀ e ∈ af, Region.binds .any e = true → L e.on = true) → ∀ q ∈ dep, q.1 = i → L q.2 = true)
    (hop : op = .store t x y) (hy : y = .tmp fa) (hx : ∀ L f w, (∀ e ∈ af, Region.binds .any e = true → L e.on = true) → TJ S V F (MApp W B vo xs ys A oc oa os fc fa dep) L f w → env f x = .pointer (some A))
    (hrun : ∀ (ρ : Operand → Value) w v, AppRes W B vo xs ys w v → ρ x = .pointer (some A) → ρ (.tmp fa) = v → (execOp ρ { dst := none, op := .store t x (.tmp fa), type := ty, pos := pos, after := af, guard := none }).run Try.prog w = .ok .skip (w.setCell A v)) :
    Iv.StepOk Try.prog ops n (TJ S V F (MApp W B vo xs ys A oc oa os fc fa dep)) i { dst := none, op := op, type := ty, pos := pos, after := af, guard := none } := by
  subst hi hop hy
  have ne : ∀ {a b : Nat}, Nat.beq a b = false → a ≠ b := fun h e => by rw [e, Nat.beq_refl] at h; cases h
  refine tj_store hs fun L f w hL hdep H => ?_
  obtain ⟨e, he, hb, hon⟩ := haf
  have hA : L oa = true := hon ▸ hdep e he hb
  have hR := H.m.e hA hL
  refine ⟨_, hrun (env f) w (f fa) hR (hx L f w hdep H) rfl, fun k => ?_, fun _ k => ?_, fun _ k => ?_, fun _ => ⟨w, hR, rfl⟩, fun q hq k => ?_⟩
  · rw [mark_ne (ne ha), hA] at k; cases k
  · rw [mark_ne (ne ha), hA] at k; cases k
  · rw [show Iv.mark L os os = true by unfold Iv.mark; rw [Nat.beq_refl]; rfl] at k; cases k
  · by_cases e : q.1 = os
    · exact mark_le (hdp L hdep q hq e)
    · rw [mark_ne e] at k; exact mark_le (H.m.d q hq k)
end

end Go.Proofs.Ytcdedefhofkbhaa
