/- One operation of a region's walk (FanB): reads, calls, and those that change the memory. -/
import Derived.Test.YtijkoaggcmgjiaaStep
namespace Go.Proofs.Ytijkoaggcmgjiaa.F2
open Go Go.RowKit
set_option linter.unusedVariables false

section
variable {P : Program} {ops : Array Oper} {s : List Nat} {i n : Nat} {C : Nat → World → Prop} {Q : Act → Prop} {K : (Nat → Value) → Prop} {rest : List Oper} {a : Act} {f : Nat → Value} {d : Tmp} {ty : TypeId} {pos : String} {af : Array Edge} {gd : Option (Nat × Bool)} {x y : Operand} {op : Op} {o : Oper}

def Yields (P : Program) (ops : Array Oper) (s : List Nat) (C : Nat → World → Prop) (n i : Nat) (o : Oper) (f : Nat → Value) (K : (Nat → Value) → Prop) : Prop :=
  ∃ v, ((Region.wanted o (yieldE ops f) = true ∧ ∀ b w, (i ∈ s → s[b]? = some i) → C b w → Fans P (C (step s i b)) w v ((execOp (env f) o).run P w)) ∨ (Region.wanted o (yieldE ops f) = false ∧ v = undef ∧ i ∉ s)) ∧
    match o.dst with
    | some d => d < n ∧ K (upd f d v)
    | none => K f
def WalksE (P : Program) (ops : Array Oper) (s : List Nat) (C : Nat → World → Prop) (n : Nat) (Q : Act → Prop) : Nat → List Oper → (Nat → Value) → Prop
  | _, [], f => ∀ a, Is a n f → Q a
  | i, o :: rest, f => Yields P ops s C n i o f (WalksE P ops s C n Q (i + 1) rest)

theorem WalksE.sound : ∀ (l : List Oper) (i : Nat) (f : Nat → Value) (a : Act), WalksE P ops s C n Q i l f → Is a n f → Walks P ops s C Q i l a
  | [], _, _, a, h, ha => h a ha
  | o :: l, i, f, a, h, ha => by
    obtain ⟨v, hv, hk⟩ := h
    refine ⟨v, ?_, ?_⟩
    · unfold Fan; rw [ha.eval, ha.yields]; exact hv
    · cases hd : o.dst with
      | none => rw [hd] at hk; exact WalksE.sound l (i + 1) _ _ hk ha
      | some d => rw [hd] at hk; exact WalksE.sound l (i + 1) _ _ hk.2 (ha.put hk.1 v)

theorem walks_one (h : ∀ K : (Nat → Value) → Prop, (∀ f, WalksE P ops s C n Q (i + 1) rest f → K f) → Yields P ops s C n i o f K) : WalksE P ops s C n Q i (o :: rest) f := h _ (fun _ h => h)
theorem walks_with (h : ∀ K : Act → Prop, (∀ a, Q a → K a) → WalksE P ops s C n K i rest f) : WalksE P ops s C n Q i rest f := h _ (fun _ h => h)
theorem walks_end (h : ∀ a, Is a n f → Q a) : WalksE P ops s C n Q i [] f := h

theorem not_in (hs : s.elem i = false) : i ∉ s := by simpa using hs
theorem st_pure {v : Value} (hs : s.elem i = false) (hd : Nat.blt d n = true) (h : ∀ w, (execOp (env f) { dst := some d, op := op, type := ty, pos := pos, after := af, guard := gd }).run P w = .ok (.value v) w) (k : K (upd f d v))
    (hw : Region.wanted { dst := some d, op := op, type := ty, pos := pos, after := af, guard := gd } (yieldE ops f) = true := by exact rfl) : Yields P ops s C n i { dst := some d, op := op, type := ty, pos := pos, after := af, guard := gd } f K :=
  ⟨v, .inl ⟨hw, fun b w _ hC => by rw [h w, step, if_neg (not_in hs)]; exact ⟨hC, rfl⟩⟩, by simpa using hd, k⟩
/-- An operation that reads: in every world of the classes. -/
theorem st_read {v : Value} (hs : s.elem i = false) (hd : Nat.blt d n = true) (h : ∀ b w, C b w → (execOp (env f) { dst := some d, op := op, type := ty, pos := pos, after := af, guard := gd }).run P w = .ok (.value v) w) (k : K (upd f d v))
    (hw : Region.wanted { dst := some d, op := op, type := ty, pos := pos, after := af, guard := gd } (yieldE ops f) = true := by exact rfl) : Yields P ops s C n i { dst := some d, op := op, type := ty, pos := pos, after := af, guard := gd } f K :=
  ⟨v, .inl ⟨hw, fun b w _ hC => by rw [h b w hC, step, if_neg (not_in hs)]; exact ⟨hC, rfl⟩⟩, by simpa using hd, k⟩
theorem st_skip (hs : s.elem i = false) (hd : Nat.blt d n = true) (hw : Region.wanted { dst := some d, op := op, type := ty, pos := pos, after := af, guard := gd } (yieldE ops f) = false) (k : K (upd f d undef)) : Yields P ops s C n i { dst := some d, op := op, type := ty, pos := pos, after := af, guard := gd } f K :=
  ⟨undef, .inr ⟨hw, rfl, not_in hs⟩, by simpa using hd, k⟩
theorem st_call {g : FuncId} {args : Array Value} {r : Value} (hs : s.elem i = false) (hd : Nat.blt d n = true) (hrun : ∀ w, (execOp (env f) { dst := some d, op := op, type := ty, pos := pos, after := af, guard := gd }).run P w = .ok (.enter g args) w)
    (hc : ∀ b w, C b w → Calls P g args w fun e w' => e = .returned r ∧ C b w') (k : K (upd f d r))
    (hw : Region.wanted { dst := some d, op := op, type := ty, pos := pos, after := af, guard := gd } (yieldE ops f) = true := by exact rfl) : Yields P ops s C n i { dst := some d, op := op, type := ty, pos := pos, after := af, guard := gd } f K :=
  ⟨r, .inl ⟨hw, fun b w _ hC => by rw [hrun w, step, if_neg (not_in hs)]; exact ⟨rfl, hc b w hC⟩⟩, by simpa using hd, k⟩

theorem pos_one {s : List Nat} {i b k : Nat} (hn : s.Nodup) (hk : s[k]? = some i) (hb : s[b]? = some i) : b = k := by
  obtain ⟨h1, e1⟩ := List.getElem?_eq_some_iff.1 hk
  obtain ⟨h2, e2⟩ := List.getElem?_eq_some_iff.1 hb
  exact (List.getElem_inj hn).1 (e2.trans e1.symm)
/-- The k-th of the operations that change the memory: it yields a value. -/
theorem st_turn {v : Value} (m : Nat) (hm : s[m]? = some i) (hn : s.Nodup) (hd : Nat.blt d n = true) (h : ∀ w, C m w → ∃ w', (execOp (env f) { dst := some d, op := op, type := ty, pos := pos, after := af, guard := gd }).run P w = .ok (.value v) w' ∧ C (m + 1) w') (k : K (upd f d v))
    (hw : Region.wanted { dst := some d, op := op, type := ty, pos := pos, after := af, guard := gd } (yieldE ops f) = true := by exact rfl) : Yields P ops s C n i { dst := some d, op := op, type := ty, pos := pos, after := af, guard := gd } f K := by
  have hi : i ∈ s := List.mem_of_getElem? hm
  refine ⟨v, .inl ⟨hw, fun b w hb hC => ?_⟩, by simpa using hd, k⟩
  obtain rfl := pos_one hn hm (hb hi)
  obtain ⟨w', e, h'⟩ := h w hC
  rw [e, step, if_pos hi]
  exact ⟨h', rfl⟩
/-- The k-th of them: a store. -/
theorem st_store (m : Nat) (hm : s[m]? = some i) (hn : s.Nodup) (h : ∀ w, C m w → ∃ w', (execOp (env f) { dst := none, op := op, type := ty, pos := pos, after := af, guard := gd }).run P w = .ok .skip w' ∧ C (m + 1) w') (k : K f)
    (hw : Region.wanted { dst := none, op := op, type := ty, pos := pos, after := af, guard := gd } (yieldE ops f) = true := by exact rfl) : Yields P ops s C n i { dst := none, op := op, type := ty, pos := pos, after := af, guard := gd } f K := by
  have hi : i ∈ s := List.mem_of_getElem? hm
  refine ⟨undef, .inl ⟨hw, fun b w hb hC => ?_⟩, k⟩
  obtain rfl := pos_one hn hm (hb hi)
  obtain ⟨w', e, h'⟩ := h w hC
  rw [e, step, if_pos hi]
  exact ⟨h', rfl⟩
end

/-- The worlds, one for each level. -/
def Ex (Ws : Nat → World) (b : Nat) (w : World) : Prop := w = Ws b
def w3 (a b c : World) : Nat → World
  | 0 => a
  | 1 => b
  | _ => c
theorem ex_below {B : Nat} {w a b c : World} (h0 : Below B w a) (h1 : Below B w b) (h2 : Below B w c) : ∀ m w1, Ex (w3 a b c) m w1 → Below B w w1
  | 0, _, h => by cases h; exact h0
  | 1, _, h => by cases h; exact h1
  | _ + 2, _, h => by cases h; exact h2

end Go.Proofs.Ytijkoaggcmgjiaa.F2
