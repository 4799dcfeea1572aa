/- A region in the order of the text, an operation a step, its frame a function. -/
import Derived.Test.YtcdedefhofkbhaaStep
namespace Go.Proofs.Ytcdedefhofkbhaa
open Go Go.RowKit
set_option linter.unusedVariables false
set_option linter.unusedSimpArgs false

section
variable {P : Program} {ops : Array Oper} {R : Exit → Act → World → Prop} {rest : List Oper} {a : Act} {f : Nat → Value} {n : Nat} {w w' : World}
theorem sq_start {tmps : Array Value} {l : List Oper} (hn : tmps.size = n) (k : ∀ a, Is a n (fun i => tmps.getD i undef) → wpList P ops R l a w) : wpList P ops R l ⟨tmps, []⟩ w := k _ (Is.start _ hn)
theorem sq_val {d : Tmp} {v : Value} {op : Op} {ty : TypeId} {pos : String} {af : Array Edge} (ha : Is a n f) (hlt : Nat.blt d n = true) (h : (execOp (env f) { dst := some d, op := op, type := ty, pos := pos, after := af, guard := none }).run P w = .ok (.value v) w')
    (k : ∀ a', Is a' n (upd f d v) → wpList P ops R rest a' w') : wpList P ops R ({ dst := some d, op := op, type := ty, pos := pos, after := af, guard := none } :: rest) a w := by
  refine wpList_plain rfl fun K hK => ?_
  unfold Oper.wp
  rw [ha.eval, h]
  exact hK _ _ (k _ (ha.put (by simpa using hlt) v))
theorem sq_skip {op : Op} {ty : TypeId} {pos : String} {af : Array Edge} (ha : Is a n f) (h : (execOp (env f) { dst := none, op := op, type := ty, pos := pos, after := af, guard := none }).run P w = .ok .skip w')
    (k : ∀ a', Is a' n f → wpList P ops R rest a' w') : wpList P ops R ({ dst := none, op := op, type := ty, pos := pos, after := af, guard := none } :: rest) a w := by
  refine wpList_plain rfl fun K hK => ?_
  unfold Oper.wp
  rw [ha.eval, h]
  exact hK _ _ (k _ ha)
theorem sq_call {d : Tmp} {v : Value} {op : Op} {ty : TypeId} {pos : String} {af : Array Edge} {g : FuncId} {args : Array Value} {G : Value → World → Prop} (ha : Is a n f) (hlt : Nat.blt d n = true) (h : (execOp (env f) { dst := some d, op := op, type := ty, pos := pos, after := af, guard := none }).run P w = .ok (.enter g args) w)
    (hc : Calls P g args w fun e w' => ∃ v, e = .returned v ∧ G v w')
    (k : ∀ v w' a', G v w' → Is a' n (upd f d v) → wpList P ops R rest a' w') : wpList P ops R ({ dst := some d, op := op, type := ty, pos := pos, after := af, guard := none } :: rest) a w := by
  refine wpList_plain rfl fun K hK => ?_
  unfold Oper.wp
  rw [ha.eval, h]
  refine hc.mono ?_
  rintro e w' ⟨v, rfl, hv⟩
  exact hK _ _ (k v w' _ hv (ha.put (by simpa using hlt) v))
end

section
variable {ρ : Operand → Value} {dst : Option Tmp} {ty : TypeId} {pos : String} {af : Array Edge} {x y : Operand} {w : World} {gd : Option (Nat × Bool)}
theorem run_min {i j : Int} (hx : ρ x = .int .i64 i) (hy : ρ y = .int .i64 j) :
    (execOp ρ { dst := dst, op := .call { callee := .builtin .min, args := #[x, y], argTypes := #[3, 3] }, type := ty, pos := pos, after := af, guard := gd }).run Try.prog w = .ok (.value (.int .i64 (min i j))) w := by
  go_simp
  split <;> omega
theorem run_max {i j : Int} (hx : ρ x = .int .i64 i) (hy : ρ y = .int .i64 j) :
    (execOp ρ { dst := dst, op := .call { callee := .builtin .max, args := #[x, y], argTypes := #[3, 3] }, type := ty, pos := pos, after := af, guard := gd }).run Try.prog w = .ok (.value (.int .i64 (max i j))) w := by
  go_simp
  split <;> omega
theorem run_fldP0 {n : Nat} (hx : ρ x = .pointer (some ⟨n, 0, none⟩)) :
    (execOp ρ { dst := dst, op := .fieldAddr 23 x 0, type := ty, pos := pos, after := af, guard := gd }).run Try.prog w = .ok (.value (.pointer (some ⟨n, 0, none⟩))) w := by
  go_simp
theorem run_fldP1 {n : Nat} (hx : ρ x = .pointer (some ⟨n, 0, none⟩)) :
    (execOp ρ { dst := dst, op := .fieldAddr 23 x 1, type := ty, pos := pos, after := af, guard := gd }).run Try.prog w = .ok (.value (.pointer (some ⟨n, 1, none⟩))) w := by
  go_simp
theorem run_buildP {i j : Int} (hx : ρ x = .int .i64 i) (hy : ρ y = .int .i64 j) :
    (execOp ρ { dst := dst, op := .build 23 #[(0, x), (1, y)], type := ty, pos := pos, after := af, guard := gd }).run Try.prog w = .ok (.value (pt i j)) w := by
  go_simp
end

end Go.Proofs.Ytcdedefhofkbhaa
