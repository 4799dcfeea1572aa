/- A region in the order of the text, an operation a step, its frame a function; arithmetic. -/
import Derived.Test.YtjflgblplmgjlaaStep
namespace Go.Proofs.Ytjflgblplmgjlaa
open Go Go.RowKit
set_option linter.unusedVariables false
set_option linter.unusedSimpArgs false

theorem ret1_int {a b : Int} (h : a = b) : Ending.returned (.int .i64 a) = .returned (.int .i64 b) := by rw [h]
theorem ret1_bool {a b : Bool} (h : a = b) : Ending.returned (.bool a) = .returned (.bool b) := by rw [h]
section
variable {P : Program} {ops : Array Oper} {R : Exit → Act → World → Prop} {rest : List Oper} {a : Act} {f : Nat → Value} {n : Nat} {w w' : World}
theorem sq_start {tmps : Array Value} {l : List Oper} (hn : tmps.size = n) (k : ∀ a, Is a n (fun i => tmps.getD i undef) → wpList P ops R l a w) : wpList P ops R l ⟨tmps, []⟩ w := k _ (Is.start _ hn)
theorem sq_val {d : Tmp} {v : Value} {op : Op} {ty : TypeId} {pos : String} {af : Array Edge} (ha : Is a n f) (hlt : Nat.blt d n = true) (h : (execOp (env f) { dst := some d, op := op, type := ty, pos := pos, after := af, guard := none }).run P w = .ok (.value v) w')
    (k : ∀ a', Is a' n (upd f d v) → wpList P ops R rest a' w') : wpList P ops R ({ dst := some d, op := op, type := ty, pos := pos, after := af, guard := none } :: rest) a w := by
  refine wpList_plain rfl fun K hK => ?_
  unfold Oper.wp
  rw [ha.eval, h]
  exact hK _ _ (k _ (ha.put (by simpa using hlt) v))
theorem sq_skip {op : Op} {ty : TypeId} {pos : String} {af : Array Edge} (ha : Is a n f) (h : (execOp (env f) { dst := none, op := op, type := ty, pos := pos, after := af, guard := none }).run P w = .ok .skip w')
    (k : ∀ a', Is a' n f → wpList P ops R rest a' w') : wpList P ops R ({ dst := none, op := op, type := ty, pos := pos, after := af, guard := none } :: rest) a w := by
  refine wpList_plain rfl fun K hK => ?_
  unfold Oper.wp
  rw [ha.eval, h]
  exact hK _ _ (k _ ha)
theorem sq_call {d : Tmp} {op : Op} {ty : TypeId} {pos : String} {af : Array Edge} {g : FuncId} {args : Array Value} {G : Value → World → Prop} (ha : Is a n f) (hlt : Nat.blt d n = true) (h : (execOp (env f) { dst := some d, op := op, type := ty, pos := pos, after := af, guard := none }).run P w = .ok (.enter g args) w)
    (hc : Calls P g args w fun e w' => ∃ v, e = .returned v ∧ G v w')
    (k : ∀ v w' a', G v w' → Is a' n (upd f d v) → wpList P ops R rest a' w') : wpList P ops R ({ dst := some d, op := op, type := ty, pos := pos, after := af, guard := none } :: rest) a w := by
  refine wpList_plain rfl fun K hK => ?_
  unfold Oper.wp
  rw [ha.eval, h]
  refine hc.mono ?_
  rintro e w' ⟨v, rfl, hv⟩
  exact hK _ _ (k v w' _ hv (ha.put (by simpa using hlt) v))
end

theorem run_max2' (P : Program) (w : World) (a b : Int) : (Builtin.max2 (.int .i64 a) (.int .i64 b)).run P w = .ok (.int .i64 (max a b)) w := by
  have h : (if b > a then b else a) = max a b := by split <;> omega
  show (pure (Value.int .i64 (if b > a then b else a)) : Sem Value).run P w = _
  rw [h]; rfl
theorem run_min2' (P : Program) (w : World) (a b : Int) : (Builtin.min2 (.int .i64 a) (.int .i64 b)).run P w = .ok (.int .i64 (min a b)) w := by
  have h : (if b < a then b else a) = min a b := by split <;> omega
  show (pure (Value.int .i64 (if b < a then b else a)) : Sem Value).run P w = _
  rw [h]; rfl
theorem run_max_int5' (P : Program) (w : World) (ts : Array TypeId) (t : TypeId) (a b c d e : Int) : (Builtin.max_ ts t #[.int .i64 a, .int .i64 b, .int .i64 c, .int .i64 d, .int .i64 e]).run P w = .ok (.int .i64 (max (max (max (max a b) c) d) e)) w := by
  show (List.foldlM Builtin.max2 (Value.int .i64 a) [Value.int .i64 b, Value.int .i64 c, Value.int .i64 d, Value.int .i64 e]).run P w = _
  simp only [List.foldlM_cons, List.foldlM_nil, Sem.run_bind, run_max2', Result.andThen_ok, Sem.run_pure]
theorem run_max_int3' (P : Program) (w : World) (ts : Array TypeId) (t : TypeId) (a b c : Int) : (Builtin.max_ ts t #[.int .i64 a, .int .i64 b, .int .i64 c]).run P w = .ok (.int .i64 (max (max a b) c)) w := by
  show (List.foldlM Builtin.max2 (Value.int .i64 a) [Value.int .i64 b, Value.int .i64 c]).run P w = _
  simp only [List.foldlM_cons, List.foldlM_nil, Sem.run_bind, run_max2', Result.andThen_ok, Sem.run_pure]
theorem run_min_int3' (P : Program) (w : World) (ts : Array TypeId) (t : TypeId) (a b c : Int) : (Builtin.min_ ts t #[.int .i64 a, .int .i64 b, .int .i64 c]).run P w = .ok (.int .i64 (min (min a b) c)) w := by
  show (List.foldlM Builtin.min2 (Value.int .i64 a) [Value.int .i64 b, Value.int .i64 c]).run P w = _
  simp only [List.foldlM_cons, List.foldlM_nil, Sem.run_bind, run_min2', Result.andThen_ok, Sem.run_pure]
theorem run_max_int2' (P : Program) (w : World) (ts : Array TypeId) (t : TypeId) (a b : Int) : (Builtin.max_ ts t #[.int .i64 a, .int .i64 b]).run P w = .ok (.int .i64 (max a b)) w := by
  show (List.foldlM Builtin.max2 (Value.int .i64 a) [Value.int .i64 b]).run P w = _
  simp only [List.foldlM_cons, List.foldlM_nil, Sem.run_bind, run_max2', Result.andThen_ok, Sem.run_pure]
theorem run_min_int2' (P : Program) (w : World) (ts : Array TypeId) (t : TypeId) (a b : Int) : (Builtin.min_ ts t #[.int .i64 a, .int .i64 b]).run P w = .ok (.int .i64 (min a b)) w := by
  show (List.foldlM Builtin.min2 (Value.int .i64 a) [Value.int .i64 b]).run P w = _
  simp only [List.foldlM_cons, List.foldlM_nil, Sem.run_bind, run_min2', Result.andThen_ok, Sem.run_pure]

def Rg (z : Int) : Prop := -9223372036854775808 ≤ z ∧ z ≤ 9223372036854775807
section
variable {ρ : Operand → Value} {dst : Option Tmp} {ty : TypeId} {pos : String} {af : Array Edge} {x y : Operand} {w : World} {gd : Option (Nat × Bool)}
theorem run_add {i j : Int} (hx : ρ x = .int .i64 i) (hy : ρ y = .int .i64 j) (h : Rg (i + j)) :
    (execOp ρ { dst := dst, op := .binOp .add 3 x y 3, type := ty, pos := pos, after := af, guard := gd }).run Try.prog w = .ok (.value (.int .i64 (i + j))) w := by
  have e : IntKind.i64.wrap (i + j) = i + j := by unfold Rg at h; rw [IntKind.wrap_i64]; omega
  go_simp
theorem run_sub {i j : Int} (hx : ρ x = .int .i64 i) (hy : ρ y = .int .i64 j) (h : Rg (i - j)) :
    (execOp ρ { dst := dst, op := .binOp .sub 3 x y 3, type := ty, pos := pos, after := af, guard := gd }).run Try.prog w = .ok (.value (.int .i64 (i - j))) w := by
  have e : IntKind.i64.wrap (i - j) = i - j := by unfold Rg at h; rw [IntKind.wrap_i64]; omega
  go_simp
theorem run_mul {i j : Int} (hx : ρ x = .int .i64 i) (hy : ρ y = .int .i64 j) (h : Rg (i * j)) :
    (execOp ρ { dst := dst, op := .binOp .mul 3 x y 3, type := ty, pos := pos, after := af, guard := gd }).run Try.prog w = .ok (.value (.int .i64 (i * j))) w := by
  have e : IntKind.i64.wrap (i * j) = i * j := by unfold Rg at h; rw [IntKind.wrap_i64]; omega
  go_simp
theorem run_not {b : Bool} (hx : ρ x = .bool b) :
    (execOp ρ { dst := dst, op := .unOp .not 4 x, type := ty, pos := pos, after := af, guard := gd }).run Try.prog w = .ok (.value (.bool (!b))) w := by
  go_simp
theorem run_neg {i : Int} (hx : ρ x = .int .i64 i) (h : Rg (-i)) :
    (execOp ρ { dst := dst, op := .unOp .neg 3 x, type := ty, pos := pos, after := af, guard := gd }).run Try.prog w = .ok (.value (.int .i64 (-i))) w := by
  have e : IntKind.i64.wrap (-i) = -i := by unfold Rg at h; rw [IntKind.wrap_i64]; omega
  go_simp
theorem run_lss {i j : Int} (hx : ρ x = .int .i64 i) (hy : ρ y = .int .i64 j) :
    (execOp ρ { dst := dst, op := .binOp .lss 3 x y 3, type := ty, pos := pos, after := af, guard := gd }).run Try.prog w = .ok (.value (.bool (decide (i < j)))) w := by
  go_simp
theorem run_leq {i j : Int} (hx : ρ x = .int .i64 i) (hy : ρ y = .int .i64 j) :
    (execOp ρ { dst := dst, op := .binOp .leq 3 x y 3, type := ty, pos := pos, after := af, guard := gd }).run Try.prog w = .ok (.value (.bool (decide (i ≤ j)))) w := by
  go_simp
theorem run_gtr {i j : Int} (hx : ρ x = .int .i64 i) (hy : ρ y = .int .i64 j) :
    (execOp ρ { dst := dst, op := .binOp .gtr 3 x y 3, type := ty, pos := pos, after := af, guard := gd }).run Try.prog w = .ok (.value (.bool (decide (i > j)))) w := by
  go_simp
theorem run_geq {i j : Int} (hx : ρ x = .int .i64 i) (hy : ρ y = .int .i64 j) :
    (execOp ρ { dst := dst, op := .binOp .geq 3 x y 3, type := ty, pos := pos, after := af, guard := gd }).run Try.prog w = .ok (.value (.bool (decide (i ≥ j)))) w := by
  go_simp
theorem run_max2 {i0 i1 : Int} (hx : ρ x = .int .i64 i0) (hy : ρ y = .int .i64 i1) :
    (execOp ρ { dst := dst, op := .call { callee := .builtin .max, args := #[x, y], argTypes := #[3, 3] }, type := ty, pos := pos, after := af, guard := gd }).run Try.prog w = .ok (.value (.int .i64 (max i0 i1))) w := by
  have e := run_max_int2' Try.prog w #[3, 3] ty i0 i1
  unfold execOp
  simp only [resolve, invoke, builtin, Sem.run_bind, Sem.run_pure, Result.andThen_ok, List.map_toArray, List.map_cons, List.map_nil, hx, hy, e]
theorem run_min2 {i0 i1 : Int} (hx : ρ x = .int .i64 i0) (hy : ρ y = .int .i64 i1) :
    (execOp ρ { dst := dst, op := .call { callee := .builtin .min, args := #[x, y], argTypes := #[3, 3] }, type := ty, pos := pos, after := af, guard := gd }).run Try.prog w = .ok (.value (.int .i64 (min i0 i1))) w := by
  have e := run_min_int2' Try.prog w #[3, 3] ty i0 i1
  unfold execOp
  simp only [resolve, invoke, builtin, Sem.run_bind, Sem.run_pure, Result.andThen_ok, List.map_toArray, List.map_cons, List.map_nil, hx, hy, e]
theorem run_max3 {i0 i1 i2 : Int} {z : Operand} (hx : ρ x = .int .i64 i0) (hy : ρ y = .int .i64 i1) (hz : ρ z = .int .i64 i2) :
    (execOp ρ { dst := dst, op := .call { callee := .builtin .max, args := #[x, y, z], argTypes := #[3, 3, 3] }, type := ty, pos := pos, after := af, guard := gd }).run Try.prog w = .ok (.value (.int .i64 (max (max i0 i1) i2))) w := by
  have e := run_max_int3' Try.prog w #[3, 3, 3] ty i0 i1 i2
  unfold execOp
  simp only [resolve, invoke, builtin, Sem.run_bind, Sem.run_pure, Result.andThen_ok, List.map_toArray, List.map_cons, List.map_nil, hx, hy, hz, e]
theorem run_min3 {i0 i1 i2 : Int} {z : Operand} (hx : ρ x = .int .i64 i0) (hy : ρ y = .int .i64 i1) (hz : ρ z = .int .i64 i2) :
    (execOp ρ { dst := dst, op := .call { callee := .builtin .min, args := #[x, y, z], argTypes := #[3, 3, 3] }, type := ty, pos := pos, after := af, guard := gd }).run Try.prog w = .ok (.value (.int .i64 (min (min i0 i1) i2))) w := by
  have e := run_min_int3' Try.prog w #[3, 3, 3] ty i0 i1 i2
  unfold execOp
  simp only [resolve, invoke, builtin, Sem.run_bind, Sem.run_pure, Result.andThen_ok, List.map_toArray, List.map_cons, List.map_nil, hx, hy, hz, e]
theorem run_max5 {i0 i1 i2 i3 i4 : Int} {z u v : Operand} (hx : ρ x = .int .i64 i0) (hy : ρ y = .int .i64 i1) (hz : ρ z = .int .i64 i2) (hu : ρ u = .int .i64 i3) (hv : ρ v = .int .i64 i4) :
    (execOp ρ { dst := dst, op := .call { callee := .builtin .max, args := #[x, y, z, u, v], argTypes := #[3, 3, 3, 3, 3] }, type := ty, pos := pos, after := af, guard := gd }).run Try.prog w = .ok (.value (.int .i64 (max (max (max (max i0 i1) i2) i3) i4))) w := by
  have e := run_max_int5' Try.prog w #[3, 3, 3, 3, 3] ty i0 i1 i2 i3 i4
  unfold execOp
  simp only [resolve, invoke, builtin, Sem.run_bind, Sem.run_pure, Result.andThen_ok, List.map_toArray, List.map_cons, List.map_nil, hx, hy, hz, hu, hv, e]
theorem run_pick {x y z : Operand} {b : Bool} (hx : ρ x = .bool b) :
    (execOp ρ { dst := dst, op := .pick x y z, type := ty, pos := pos, after := af, guard := gd }).run Try.prog w = .ok (.value (if b then ρ y else ρ z)) w := by
  cases b <;> go_simp
theorem run_nil {a : Addr} (hx : ρ x = .pointer (some a)) :
    (execOp ρ { dst := dst, op := .nilCheck x, type := ty, pos := pos, after := af, guard := gd }).run Try.prog w = .ok (.value (.pointer (some a))) w := by
  go_simp
theorem run_append {P : Program} {t : TypeId} {v v' u : Value} {w' : World} (hx : ρ x = v) (hy : ρ y = u) (h : (Builtin.append_ #[t, t] ty #[v, u]).run P w = .ok v' w') :
    (execOp ρ { dst := dst, op := .call { callee := .builtin .append, args := #[x, y], argTypes := #[t, t] }, type := ty, pos := pos, after := af, guard := gd }).run P w = .ok (.value v') w' := by
  unfold execOp
  simp only [resolve, invoke, builtin, Sem.run_bind, Sem.run_pure, Result.andThen_ok, List.map_toArray, List.map_cons, List.map_nil, hx, hy, h]
theorem run_fldP0 {a : Addr} (hx : ρ x = .pointer (some a)) :
    (execOp ρ { dst := dst, op := .fieldAddr 37 x 0, type := ty, pos := pos, after := af, guard := gd }).run Try.prog w = .ok (.value (.pointer (some a))) w := by
  go_simp
theorem run_fldP1 {a : Addr} (hx : ρ x = .pointer (some a)) :
    (execOp ρ { dst := dst, op := .fieldAddr 37 x 1, type := ty, pos := pos, after := af, guard := gd }).run Try.prog w = .ok (.value (.pointer (some (a.add 1)))) w := by
  go_simp
theorem run_quo2 {p : Nat} (hx : ρ x = .int .i64 p) (hy : ρ y = .int .i64 2) (hp : p ≤ 4000000000) :
    (execOp ρ { dst := dst, op := .binOp .quo 3 x y 3, type := ty, pos := pos, after := af, guard := gd }).run Try.prog w = .ok (.value (.int .i64 ((p / 2 : Nat) : Int))) w := by
  have e : IntKind.i64.wrap ((p : Int) / 2) = ((p / 2 : Nat) : Int) := by rw [IntKind.wrap_i64]; omega
  go_simp
theorem run_allocPt : (execOp ρ { dst := dst, op := .alloc 37, type := ty, pos := pos, after := af, guard := gd }).run Try.prog w = .ok (.value (.pointer (some ⟨w.heap.size, 0, none⟩))) (w.alloc (.cells #[.int .i64 0, .int .i64 0] 37)) := by
  go_simp
theorem run_storePt {B : Nat} {s : P2} {u0 u1 : Value} (hp : ρ x = .pointer (some ⟨B, 0, none⟩)) (hq : ρ y = ptv s) (hV : Var w B #[u0, u1] 37) :
    (execOp ρ { dst := dst, op := .store 37 x y, type := ty, pos := pos, after := af, guard := gd }).run Try.prog w = .ok .skip ((w.setCell ⟨B, 0, none⟩ (.int .i64 s.x)).setCell ⟨B, 1, none⟩ (.int .i64 s.y)) := by
  obtain ⟨q0, q1, qf⟩ := hV.read2
  go_simp
theorem run_buildPt {i j : Int} (hx : ρ x = .int .i64 i) (hy : ρ y = .int .i64 j) :
    (execOp ρ { dst := dst, op := .build 37 #[(0, x), (1, y)], type := ty, pos := pos, after := af, guard := gd }).run Try.prog w = .ok (.value (ptv ⟨i, j⟩)) w := by
  go_simp
theorem run_call3 {P : Program} {g : FuncId} {ts : Array TypeId} {z : Operand} (hf : ρ (.func g) = .func (.func g) #[] #[]) (he : Enters P g) :
    (execOp ρ { dst := dst, op := .call { callee := .value (.func g), args := #[x, y, z], argTypes := ts }, type := ty, pos := pos, after := af, guard := gd }).run P w = .ok (.enter g #[ρ x, ρ y, ρ z]) w := by
  have e : ∀ args w, (callFunc g args).run P w = .ok (.enter g args) w := he
  go_simp
theorem run_call4 {P : Program} {g : FuncId} {ts : Array TypeId} {z u : Operand} (hf : ρ (.func g) = .func (.func g) #[] #[]) (he : Enters P g) :
    (execOp ρ { dst := dst, op := .call { callee := .value (.func g), args := #[x, y, z, u], argTypes := ts }, type := ty, pos := pos, after := af, guard := gd }).run P w = .ok (.enter g #[ρ x, ρ y, ρ z, ρ u]) w := by
  have e : ∀ args w, (callFunc g args).run P w = .ok (.enter g args) w := he
  go_simp
end
theorem dec_t {p : Prop} [Decidable p] {w : World} (h : p) : Result.ok (Next.value (Value.bool (decide p))) w = Result.ok (Next.value (Value.bool true)) w := by rw [decide_eq_true h]
theorem dec_f {p : Prop} [Decidable p] {w : World} (h : ¬ p) : Result.ok (Next.value (Value.bool (decide p))) w = Result.ok (Next.value (Value.bool false)) w := by rw [decide_eq_false h]
theorem int_is {a b : Int} {w : World} (h : a = b) : Result.ok (Next.value (Value.int .i64 a)) w = Result.ok (Next.value (Value.int .i64 b)) w := by rw [h]
theorem ptr_is {a b : Addr} {w : World} (h : a = b) : Result.ok (Next.value (Value.pointer (some a))) w = Result.ok (Next.value (Value.pointer (some b))) w := by rw [h]

end Go.Proofs.Ytjflgblplmgjlaa
