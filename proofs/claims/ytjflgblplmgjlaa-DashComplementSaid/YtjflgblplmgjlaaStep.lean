/- Frames as functions; what single operations yield. -/
import Derived.Test.YtjflgblplmgjlaaLeaf
import Derived.Test.YtjflgblplmgjlaaFanB
import Derived.Shelf.Abstract
import Derived.Deep.Cut
namespace Go.Proofs.Ytjflgblplmgjlaa
open Go Go.RowKit
set_option linter.unusedVariables false
set_option linter.unusedSimpArgs false

/-! ### Frames as functions: a slot's value is found by looking at the last writes -/
def upd (f : Nat → Value) (d : Nat) (v : Value) : Nat → Value := fun i => bif Nat.beq i d then v else f i
def env (f : Nat → Value) : Operand → Value
  | .tmp t => f t
  | .const v => v
  | .global g => .pointer (some ⟨g, 0, none⟩)
  | .func g => .func (.func g) #[] #[]
/-- The frame a has n slots, and they hold f. -/
def Is (a : Act) (n : Nat) (f : Nat → Value) : Prop := a.defers = [] ∧ a.tmps.size = n ∧ ∀ i, a.tmps.getD i undef = f i

theorem upd_at (f : Nat → Value) (d : Nat) (v : Value) : upd f d v d = v := by unfold upd; rw [Nat.beq_refl]; rfl
theorem upd_ne (f : Nat → Value) {d i : Nat} (v : Value) (h : i ≠ d) : upd f d v i = f i := by
  unfold upd
  cases e : Nat.beq i d
  · rfl
  · exact absurd (Nat.eq_of_beq_eq_true e) h
theorem Is.eval {a : Act} {n : Nat} {f : Nat → Value} (h : Is a n f) : a.eval = env f := by
  funext x
  cases x with
  | tmp t => exact h.2.2 t
  | _ => rfl
theorem Is.put {a : Act} {n : Nat} {f : Nat → Value} (h : Is a n f) {d : Nat} (hd : d < n) (v : Value) : Is (a.put (some d) v) n (upd f d v) := by
  refine ⟨h.1, by simpa [Act.put] using h.2.1, fun i => ?_⟩
  by_cases e : i = d
  · subst e
    have := h.2.1
    rw [upd_at]
    simp [Act.put, show i < a.tmps.size by omega]
  · rw [upd_ne _ _ e, ← h.2.2 i]
    simp [Act.put, Array.getElem?_setIfInBounds_ne (Ne.symm e)]
theorem Is.start (tmps : Array Value) {n : Nat} (hn : tmps.size = n) : Is ⟨tmps, []⟩ n fun i => tmps.getD i undef := ⟨rfl, hn, fun _ => rfl⟩
theorem Is.pin {a : Act} {n : Nat} {f : Nat → Value} (h : Is a n f) (d : Nat) {v : Value} (hv : f d = v) : Is a n (upd f d v) := by
  refine ⟨h.1, h.2.1, fun i => ?_⟩
  by_cases e : i = d
  · subst e; rw [upd_at, h.2.2, hv]
  · rw [upd_ne _ _ e, h.2.2]
theorem Is.whole {a : Act} {n : Nat} {f : Nat → Value} (h : Is a n f) : a = ⟨((List.range n).map f).toArray, []⟩ := by
  obtain ⟨tmps, ds⟩ := a
  obtain ⟨h1, h2, h3⟩ := h
  simp only at h1 h2 h3
  subst h1
  congr 1
  refine Array.ext (by simp [h2]) fun i hi1 hi2 => ?_
  have := h3 i
  simp only [Array.getD_eq_getD_getElem?, Array.getElem?_eq_getElem hi1, Option.getD_some] at this
  simp [this]

/-- What a guard looks at. -/
def yieldE (ops : Array Oper) (f : Nat → Value) (j : Nat) : Option Bool := match (ops[j]?).bind (·.dst) with
  | some d => (match f d with
    | .bool b => some b
    | _ => none)
  | none => none
theorem Is.yields {a : Act} {n : Nat} {f : Nat → Value} (h : Is a n f) (ops : Array Oper) : yielded ops a.tmps = yieldE ops f := by
  funext j
  unfold yielded yieldE
  cases (ops[j]?).bind (·.dst) with
  | none => rfl
  | some d =>
    simp only [Option.bind_some]
    rw [← h.2.2 d]
    rw [Array.getD_eq_getD_getElem?]
    cases a.tmps[d]? with
    | none => rfl
    | some v => cases v <;> rfl

/-- The worlds that leave the blocks below alone. -/
def Ov (W : World) (b : Nat) (w : World) : Prop := Below W.heap.size W w
theorem Ov.start (W : World) : Ov W 0 W.drew := (Below.refl _ W).drew
theorem Ov.next {W : World} {b : Nat} {w w' : World} (h : Ov W b w) (k : Below w.heap.size w w') : Ov W b w' := below_next h k

/-- One operation of a forced list, that has run to its end. -/
theorem wpList_skip {P : Program} {ops : Array Oper} {R : Exit → Act → World → Prop} {a : Act} {w w' : World} {o : Oper} {rest : List Oper} (hg : o.guard = none) (hd : o.dst = none) (hr : (execOp a.eval o).run P w = .ok .skip w') (h : wpList P ops R rest a w') : wpList P ops R (o :: rest) a w := by
  refine wpList_step fun K hK => ?_
  have : Region.wanted o (yielded ops a.tmps) = true := by unfold Region.wanted; rw [hg]
  rw [if_pos this]
  unfold Oper.wp
  rw [hr]
  have : a.put o.dst undef = a := by rw [hd]; rfl
  simp only [Oper.upon, this]
  exact hK _ _ h
theorem wpList_value {P : Program} {ops : Array Oper} {R : Exit → Act → World → Prop} {a : Act} {w : World} {o : Oper} {v : Value} {rest : List Oper} (hg : o.guard = none) (hr : (execOp a.eval o).run P w = .ok (.value v) w) (h : wpList P ops R rest (a.put o.dst v) w) : wpList P ops R (o :: rest) a w := by
  refine wpList_step fun K hK => ?_
  have : Region.wanted o (yielded ops a.tmps) = true := by unfold Region.wanted; rw [hg]
  rw [if_pos this]
  unfold Oper.wp
  rw [hr]
  simp only [Oper.upon]
  exact hK _ _ h


/-- The last operation of a region, that yields a value. -/
theorem tailV {P : Program} {ops : Array Oper} {R : Exit → Act → World → Prop} {a : Act} {w : World} {o : Oper} {u : Tmp} {v : Value} (hg : o.guard = none) (hd : o.dst = some u) (hr : (execOp a.eval o).run P w = .ok (.value v) w) (h : R .normal (a.put (some u) v) w) :
    wpList P ops R [o] a w := wpList_value hg hr (by rw [hd]; exact h)
/-- The last write of a region, of a slot. -/
theorem tailB {P : Program} {ops : Array Oper} {R : Exit → Act → World → Prop} {a : Act} {w : World} {x : Operand} {u : Tmp} {ty : TypeId} {pos : String} {af : Array Edge} (h : R .normal (a.put (some u) (a.eval x)) w) :
    wpList P ops R [{ dst := some u, op := .assign x, type := ty, pos := pos, after := af, guard := none }] a w := wpList_value rfl rfl h

section
variable {ρ : Operand → Value} {dst : Option Tmp} {ty : TypeId} {pos : String} {af : Array Edge} {x y : Operand} {w : World} {gd : Option (Nat × Bool)}
theorem run_loadPt {g : Nat} {p : P2} (hx : ρ x = .pointer (some ⟨g, 0, none⟩)) (hV : Var w g (pcel p) 37) :
    (execOp ρ { dst := dst, op := .load 37 x, type := ty, pos := pos, after := af, guard := gd }).run Try.prog w = .ok (.value (ptv p)) w := by
  obtain ⟨c0, c1, -⟩ := hV.read2
  go_simp
theorem run_loadInt {a : Addr} {z : Int} (hx : ρ x = .pointer (some a)) (hV : w.cell? a = some (.int .i64 z)) :
    (execOp ρ { dst := dst, op := .load 3 x, type := ty, pos := pos, after := af, guard := gd }).run Try.prog w = .ok (.value (.int .i64 z)) w := by
  go_simp
theorem run_eqInt {i j : Int} (hx : ρ x = .int .i64 i) (hy : ρ y = .int .i64 j) :
    (execOp ρ { dst := dst, op := .binOp .eql 3 x y 3, type := ty, pos := pos, after := af, guard := gd }).run Try.prog w = .ok (.value (.bool (decide (i = j)))) w := by
  by_cases e : i = j
  · subst e
    rw [show decide (i = i) = true by simp]
    go_simp
  · rw [show decide (i = j) = false by simp [e]]
    have e' : (i == j) = false := by simp [e]
    go_simp
theorem run_eqPt {s t : P2} (hx : ρ x = ptv s) (hy : ρ y = ptv t) :
    (execOp ρ { dst := dst, op := .binOp .eql 37 x y 37, type := ty, pos := pos, after := af, guard := gd }).run Try.prog w = .ok (.value (.bool (decide (s = t)))) w := by
  by_cases e : s = t
  · subst e
    rw [show decide (s = s) = true by simp]
    go_simp
  · have e' : decide (s = t) = false := by simp [e]
    rw [e']
    by_cases k0 : s.x = t.x
    case neg => go_simp
    by_cases k1 : s.y = t.y
    case neg => go_simp
    exact absurd (P2.ext' ⟨k0, k1⟩) e
theorem run_call1 {P : Program} {g : FuncId} {ts : Array TypeId} (hf : ρ (.func g) = .func (.func g) #[] #[]) (he : Enters P g) :
    (execOp ρ { dst := dst, op := .call { callee := .value (.func g), args := #[x], argTypes := ts }, type := ty, pos := pos, after := af, guard := gd }).run P w = .ok (.enter g #[ρ x]) w := by
  have e : ∀ args w, (callFunc g args).run P w = .ok (.enter g args) w := he
  go_simp
theorem run_call2 {P : Program} {g : FuncId} {ts : Array TypeId} (hf : ρ (.func g) = .func (.func g) #[] #[]) (he : Enters P g) :
    (execOp ρ { dst := dst, op := .call { callee := .value (.func g), args := #[x, y], argTypes := ts }, type := ty, pos := pos, after := af, guard := gd }).run P w = .ok (.enter g #[ρ x, ρ y]) w := by
  have e : ∀ args w, (callFunc g args).run P w = .ok (.enter g args) w := he
  go_simp
end

end Go.Proofs.Ytjflgblplmgjlaa
