/- New blocks in a region that draws its order: where they lie is known when all has come up. -/
import Derived.Test.YtcdedefhofkbhaaTabJ
namespace Go.Proofs.Ytcdedefhofkbhaa
open Go Go.RowKit
set_option linter.unusedVariables false
set_option linter.unusedSimpArgs false

/-- A new block: the operation that makes it, the one that stores it whole, the slot, the cells, the type. -/
structure NewB where
  a : Nat
  s : Nat
  p : Nat
  c : Array Value
  t : TypeId
structure MB (W : World) (l : List NewB) (L : Nat → Bool) (f : Nat → Value) (w : World) : Prop where
  b : Below W.heap.size W w
  a : ∀ q ∈ l, L q.a = true → ∃ n c0, f q.p = .pointer (some ⟨n, 0, none⟩) ∧ W.heap.size ≤ n ∧ Var w n c0 q.t ∧ c0.size = q.c.size ∧ (L q.s = true → c0 = q.c)
  ne : ∀ q ∈ l, ∀ r ∈ l, q.p ≠ r.p → L q.a = true → L r.a = true → f q.p ≠ f r.p
  s : ∀ q ∈ l, L q.s = true → L q.a = true
def apartB (l : List NewB) (i d : Nat) : Bool := l.all fun q => !(Nat.beq q.a i) && !(Nat.beq q.s i) && !(Nat.beq q.p d)
theorem apart_of {l : List NewB} {i d : Nat} (h : apartB l i d = true) {q : NewB} (hq : q ∈ l) : q.a ≠ i ∧ q.s ≠ i ∧ q.p ≠ d := by
  unfold apartB at h
  have := List.all_eq_true.1 h q hq
  simp only [Bool.and_eq_true, Bool.not_eq_true'] at this
  refine ⟨fun e => ?_, fun e => ?_, fun e => ?_⟩
  · rw [e, Nat.beq_refl] at this; exact absurd this.1.1 (by decide)
  · rw [e, Nat.beq_refl] at this; exact absurd this.1.2 (by decide)
  · rw [e, Nat.beq_refl] at this; exact absurd this.2 (by decide)
/-- Each block of the list is like q or apart from it. -/
def likeB (l : List NewB) (q : NewB) : Prop := ∀ r ∈ l, r = q ∨ (r.a ≠ q.a ∧ r.s ≠ q.a ∧ r.p ≠ q.p ∧ r.a ≠ q.s ∧ r.s ≠ q.s)

def apB (a s p a' s' p' : Nat) : Bool := !(Nat.beq a a') && !(Nat.beq s a') && !(Nat.beq p p') && !(Nat.beq a s') && !(Nat.beq s s')
theorem ne_of_beq {a b : Nat} (h : (!(Nat.beq a b)) = true) : a ≠ b := fun e => by rw [e, Nat.beq_refl] at h; cases h
theorem like_nil (q : NewB) : likeB [] q := fun r hr => by cases hr
theorem like_cons {r q : NewB} {l : List NewB} (h : r = q ∨ apB r.a r.s r.p q.a q.s q.p = true) (hl : likeB l q) : likeB (r :: l) q := fun x hx => by
  rcases List.mem_cons.1 hx with rfl | hx
  · rcases h with h | h
    · exact .inl h
    · unfold apB at h
      simp only [Bool.and_eq_true] at h
      exact .inr ⟨ne_of_beq h.1.1.1.1, ne_of_beq h.1.1.1.2, ne_of_beq h.1.1.2, ne_of_beq h.1.2, ne_of_beq h.2⟩
  · exact hl x hx

section
variable {W w w' : World} {l : List NewB} {L : Nat → Bool} {f : Nat → Value} {i d : Nat} {v : Value}
theorem MB.start (W : World) (l : List NewB) (f : Nat → Value) : MB W l (fun _ => false) f W.drew :=
  ⟨(Below.refl _ W).drew, fun _ _ h => (by cases h), fun _ _ _ _ _ h => (by cases h), fun _ _ h => (by cases h)⟩
theorem MB.next (h : MB W l L f w) (hb : Below w.heap.size w w') (hi : apartB l i d = true) : MB W l (Iv.mark L i) (upd f d v) w' := by
  have k := fun q hq => apart_of (l := l) hi (q := q) hq
  have ea : ∀ q ∈ l, Iv.mark L i q.a = L q.a := fun q hq => mark_ne (k q hq).1
  have es : ∀ q ∈ l, Iv.mark L i q.s = L q.s := fun q hq => mark_ne (k q hq).2.1
  have ep : ∀ q ∈ l, upd f d v q.p = f q.p := fun q hq => upd_ne f v (k q hq).2.2
  refine ⟨below_next h.b hb, fun q hq hl => ?_, fun q hq r hr hne h1 h2 => ?_, fun q hq hl => ?_⟩
  · rw [ea q hq] at hl
    obtain ⟨n, c0, h1, h2, h3, h4, h5⟩ := h.a q hq hl
    exact ⟨n, c0, (ep q hq).trans h1, h2, h3.next hb, h4, fun hs => h5 (by rwa [es q hq] at hs)⟩
  · rw [ep q hq, ep r hr]
    rw [ea q hq] at h1
    rw [ea r hr] at h2
    exact h.ne q hq r hr hne h1 h2
  · rw [ea q hq]
    rw [es q hq] at hl
    exact h.s q hq hl
theorem MB.alloc (h : MB W l L f w) {q : NewB} (hq : q ∈ l) (hk : likeB l q) {c : Array Value} (hc : c.size = q.c.size) (hL : L q.a = false) (hsa : q.s ≠ q.a) :
    MB W l (Iv.mark L q.a) (upd f q.p (.pointer (some ⟨w.heap.size, 0, none⟩))) (w.alloc (.cells c q.t)) := by
  have hs : L q.s = false := by
    cases e : L q.s
    · rfl
    · rw [h.s q hq e] at hL; cases hL
  have old : ∀ r ∈ l, r ≠ q → L r.a = true → ∃ n c0, f r.p = .pointer (some ⟨n, 0, none⟩) ∧ W.heap.size ≤ n ∧ Var w n c0 r.t ∧ c0.size = r.c.size ∧ (L r.s = true → c0 = r.c) := fun r hr _ hl => h.a r hr hl
  have far : ∀ r ∈ l, r ≠ q → (Iv.mark L q.a r.a = L r.a ∧ Iv.mark L q.a r.s = L r.s ∧ ∀ v, upd f q.p v r.p = f r.p) := fun r hr hne => by
    rcases hk r hr with e | e
    · exact absurd e hne
    · exact ⟨mark_ne e.1, mark_ne e.2.1, fun v => upd_ne f v e.2.2.1⟩
  refine ⟨below_alloc h.b _, fun r hr hl => ?_, fun r hr r' hr' hne h1 h2 => ?_, fun r hr hl => ?_⟩
  · by_cases e : r = q
    · subst e
      exact ⟨w.heap.size, c, upd_at _ _ _, h.b.size, Var.new w _ _ _ rfl, hc, fun hx => by rw [mark_ne hsa, hs] at hx; cases hx⟩
    · obtain ⟨e1, e2, e3⟩ := far r hr e
      rw [e1] at hl
      obtain ⟨n, c0, k1, k2, k3, k4, k5⟩ := h.a r hr hl
      exact ⟨n, c0, (e3 _).trans k1, k2, k3.alloc _, k4, fun hx => k5 (by rwa [e2] at hx)⟩
  · have lt : ∀ r ∈ l, r ≠ q → Iv.mark L q.a r.a = true → f r.p ≠ .pointer (some ⟨w.heap.size, 0, none⟩) := fun r hr e hl => by
      rw [(far r hr e).1] at hl
      obtain ⟨n, c0, k1, k2, k3, -⟩ := h.a r hr hl
      rw [k1]
      intro ee
      have := k3.lt
      injection ee with ee; injection ee with ee; injection ee with ee
      omega
    by_cases e : r = q
    · by_cases e' : r' = q
      · exact absurd (by rw [e, e']) hne
      · rw [(far r' hr' e').2.2, e, upd_at]; exact (lt r' hr' e' h2).symm
    · by_cases e' : r' = q
      · rw [(far r hr e).2.2, e', upd_at]; exact lt r hr e h1
      · rw [(far r hr e).2.2, (far r' hr' e').2.2]
        rw [(far r hr e).1] at h1
        rw [(far r' hr' e').1] at h2
        exact h.ne r hr r' hr' hne h1 h2
  · by_cases e : r = q
    · subst e; rw [mark_ne hsa, hs] at hl; cases hl
    · rw [(far r hr e).2.1] at hl
      rw [(far r hr e).1]; exact h.s r hr hl
theorem MB.store (h : MB W l L f w) {q : NewB} (hq : q ∈ l) (hk : likeB l q) (hsa : q.s ≠ q.a) (hL : L q.a = true) {n : Nat} (hp : f q.p = .pointer (some ⟨n, 0, none⟩)) (hb : Below W.heap.size W w') (hv : Var w' n q.c q.t) (hkeep : ∀ m, m ≠ n → w'.heap[m]? = w.heap[m]?) :
    MB W l (Iv.mark L q.s) f w' := by
  have far : ∀ r ∈ l, r ≠ q → (Iv.mark L q.s r.a = L r.a ∧ Iv.mark L q.s r.s = L r.s) := fun r hr hne => by
    rcases hk r hr with e | e
    · exact absurd e hne
    · exact ⟨mark_ne e.2.2.2.1, mark_ne e.2.2.2.2⟩
  have ha : ∀ r ∈ l, Iv.mark L q.s r.a = true → L r.a = true := fun r hr hl => by
    by_cases e : r = q
    · rw [e]; exact hL
    · rwa [(far r hr e).1] at hl
  refine ⟨hb, fun r hr hl => ?_, fun r hr r' hr' hne h1 h2 => h.ne r hr r' hr' hne (ha r hr h1) (ha r' hr' h2), fun r hr hl => ?_⟩
  · obtain ⟨m, c0, k1, k2, k3, k4, k5⟩ := h.a r hr (ha r hr hl)
    by_cases e : r = q
    · subst e
      have : m = n := by rw [hp] at k1; injection k1 with k1; injection k1 with k1; injection k1 with k1; exact k1.symm
      subst this
      exact ⟨m, r.c, k1, k2, hv, rfl, fun _ => rfl⟩
    · have hne : m ≠ n := by
        intro e2
        have hpp : r.p ≠ q.p := by
          rcases hk r hr with e3 | e3
          · exact absurd e3 e
          · exact e3.2.2.1
        refine h.ne r hr q hq hpp (ha r hr hl) hL ?_
        rw [k1, hp, e2]
      exact ⟨m, c0, k1, k2, k3.keep (hkeep m hne), k4, fun hx => k5 (by rwa [(far r hr e).2] at hx)⟩
  · by_cases e : r = q
    · subst e; rw [mark_ne hsa.symm]; exact hL
    · rw [(far r hr e).2] at hl
      rw [(far r hr e).1]; exact h.s r hr hl
/-- What stands when all has come up. -/
theorem MB.done (h : MB W l L f w) {q : NewB} (ha : L q.a = true) (hs : L q.s = true) (hq : q ∈ l) : ∃ n, f q.p = .pointer (some ⟨n, 0, none⟩) ∧ W.heap.size ≤ n ∧ Var w n q.c q.t := by
  obtain ⟨n, c0, k1, k2, k3, -, k5⟩ := h.a q hq ha
  exact ⟨n, k1, k2, k5 hs ▸ k3⟩
end

section
variable {P : Program} {ops : Array Oper} {S : List (Option Nat)} {V : List Value} {F : List (Nat × Value)} {W : World} {l : List NewB} {n i : Nat} {d : Tmp} {ty : TypeId} {pos : String} {af : Array Edge}
/-- A value, in whatever world of the class. -/
theorem nb_val {v : Value} {op : Op} (hd : Nat.blt d n = true) (hs : slotAt S i = some d) (hfr : fresh S (F.map Prod.fst) i d = true) (hap : apartB l i d = true) (hv : v = valAt V i)
    (hrun : ∀ L f w, L i = false → (∀ e ∈ af, Region.binds .any e = true → L e.on = true) → TJ S V F (MB W l) L f w → (execOp (env f) { dst := some d, op := op, type := ty, pos := pos, after := af, guard := none }).run P w = .ok (.value v) w) :
    Iv.StepOk P ops n (TJ S V F (MB W l)) i { dst := some d, op := op, type := ty, pos := pos, after := af, guard := none } :=
  tj_val hd hs hfr (fun _ _ _ h => h.next (Below.refl _ _) hap) hv hrun
theorem nb_call {v : Value} {g : FuncId} {op : Op} (hd : Nat.blt d n = true) (hs : slotAt S i = some d) (hfr : fresh S (F.map Prod.fst) i d = true) (hap : apartB l i d = true) (hv : v = valAt V i)
    (hrun : ∀ L f w, L i = false → (∀ e ∈ af, Region.binds .any e = true → L e.on = true) → TJ S V F (MB W l) L f w → ∃ args, (execOp (env f) { dst := some d, op := op, type := ty, pos := pos, after := af, guard := none }).run P w = .ok (.enter g args) w ∧ Calls P g args w fun e w' => e = .returned v ∧ Below w.heap.size w w') :
    Iv.StepOk P ops n (TJ S V F (MB W l)) i { dst := some d, op := op, type := ty, pos := pos, after := af, guard := none } :=
  tj_call hd hs hfr (fun _ _ _ _ hb h => h.next hb hap) hv hrun
theorem nb_new {q : NewB} {op : Op} {c : Array Value} (hq : q ∈ l) (hk : likeB l q) (hsa : q.s ≠ q.a) (hi : q.a = i) (hp : q.p = d) (hc : c.size = q.c.size) (hd : Nat.blt d n = true) (hs : slotAt S i = none) (hfr : fresh S (F.map Prod.fst) i d = true)
    (hrun : ∀ f w, (execOp (env f) { dst := some d, op := op, type := ty, pos := pos, after := af, guard := none }).run P w = .ok (.value (.pointer (some ⟨w.heap.size, 0, none⟩))) (w.alloc (.cells c q.t))) :
    Iv.StepOk P ops n (TJ S V F (MB W l)) i { dst := some d, op := op, type := ty, pos := pos, after := af, guard := none } := by
  subst hi hp
  exact tj_any hd hs hfr fun L f w hL _ H => ⟨_, _, hrun f w, H.m.alloc hq hk hc hL hsa⟩
theorem nb_store {q : NewB} {op : Op} (hq : q ∈ l) (hk : likeB l q) (hsa : q.s ≠ q.a) (hi : q.s = i) (hs : slotAt S i = none) (haf : ∃ e ∈ af, Region.binds .any e = true ∧ e.on = q.a)
    (hrun : ∀ L f w m c0, (∀ e ∈ af, Region.binds .any e = true → L e.on = true) → TJ S V F (MB W l) L f w → f q.p = .pointer (some ⟨m, 0, none⟩) → W.heap.size ≤ m → Var w m c0 q.t → c0.size = q.c.size →
      ∃ w', (execOp (env f) { dst := none, op := op, type := ty, pos := pos, after := af, guard := none }).run P w = .ok .skip w' ∧ Below W.heap.size W w' ∧ Var w' m q.c q.t ∧ ∀ k, k ≠ m → w'.heap[k]? = w.heap[k]?) :
    Iv.StepOk P ops n (TJ S V F (MB W l)) i { dst := none, op := op, type := ty, pos := pos, after := af, guard := none } := by
  subst hi
  refine tj_store hs fun L f w hL hdep H => ?_
  obtain ⟨e, he, hb, hon⟩ := haf
  have hA : L q.a = true := hon ▸ hdep e he hb
  obtain ⟨m, c0, k1, k2, k3, k4, -⟩ := H.m.a q hq hA
  obtain ⟨w', r1, r2, r3, r4⟩ := hrun L f w m c0 hdep H k1 k2 k3 k4
  exact ⟨w', r1, H.m.store hq hk hsa hA k1 r2 r3 r4⟩
end

end Go.Proofs.Ytcdedefhofkbhaa
