/- What single operations on ints, points, segments and curves yield; blocks of points and curves. -/
import Derived.Test.YtcdedefhofkbhaaNew
import Derived.Test.YtcdedefhofkbhaaCur
namespace Go.Proofs.Ytcdedefhofkbhaa
open Go Go.RowKit
set_option linter.unusedVariables false
set_option linter.unusedSimpArgs false

theorem ret1_int {a b : Int} (h : a = b) : Ending.returned (.int .i64 a) = .returned (.int .i64 b) := by rw [h]
theorem ret1_bool {a b : Bool} (h : a = b) : Ending.returned (.bool a) = .returned (.bool b) := by rw [h]
abbrev ptv (p : P2) : Value := pt p.x p.y
abbrev pcel (p : P2) : Array Value := #[.int .i64 p.x, .int .i64 p.y]
abbrev ccel (c : Cu) : Array Value := #[.int .i64 c.p.x, .int .i64 c.p.y, .int .i64 c.q.x, .int .i64 c.q.y, .int .i64 c.r.x, .int .i64 c.r.y, .int .i64 c.w]
abbrev cuv (c : Cu) : Value := .agg (ccel c)
theorem Var.read7 {w : World} {n : Nat} {a b c d e f g : Value} {t : TypeId} (h : Var w n #[a, b, c, d, e, f, g] t) :
    w.cell? ⟨n, 0, none⟩ = some a ∧ w.cell? ⟨n, 1, none⟩ = some b ∧ w.cell? ⟨n, 2, none⟩ = some c ∧ w.cell? ⟨n, 3, none⟩ = some d ∧ w.cell? ⟨n, 4, none⟩ = some e ∧ w.cell? ⟨n, 5, none⟩ = some f ∧ w.cell? ⟨n, 6, none⟩ = some g ∧ ∀ i, w.frozen? ⟨n, i, none⟩ = false :=
  ⟨h.cell 0, h.cell 1, h.cell 2, h.cell 3, h.cell 4, h.cell 5, h.cell 6, h.free⟩

theorem run_max2' (P : Program) (w : World) (a b : Int) : (Builtin.max2 (.int .i64 a) (.int .i64 b)).run P w = .ok (.int .i64 (max a b)) w := by
  have h : (if b > a then b else a) = max a b := by split <;> omega
  show (pure (Value.int .i64 (if b > a then b else a)) : Sem Value).run P w = _
  rw [h]; rfl
theorem run_min2' (P : Program) (w : World) (a b : Int) : (Builtin.min2 (.int .i64 a) (.int .i64 b)).run P w = .ok (.int .i64 (min a b)) w := by
  have h : (if b < a then b else a) = min a b := by split <;> omega
  show (pure (Value.int .i64 (if b < a then b else a)) : Sem Value).run P w = _
  rw [h]; rfl
theorem run_max_int5' (P : Program) (w : World) (ts : Array TypeId) (t : TypeId) (a b c d e : Int) : (Builtin.max_ ts t #[.int .i64 a, .int .i64 b, .int .i64 c, .int .i64 d, .int .i64 e]).run P w = .ok (.int .i64 (max (max (max (max a b) c) d) e)) w := by
  show (List.foldlM Builtin.max2 (Value.int .i64 a) [Value.int .i64 b, Value.int .i64 c, Value.int .i64 d, Value.int .i64 e]).run P w = _
  simp only [List.foldlM_cons, List.foldlM_nil, Sem.run_bind, run_max2', Result.andThen_ok, Sem.run_pure]
theorem run_max_int3' (P : Program) (w : World) (ts : Array TypeId) (t : TypeId) (a b c : Int) : (Builtin.max_ ts t #[.int .i64 a, .int .i64 b, .int .i64 c]).run P w = .ok (.int .i64 (max (max a b) c)) w := by
  show (List.foldlM Builtin.max2 (Value.int .i64 a) [Value.int .i64 b, Value.int .i64 c]).run P w = _
  simp only [List.foldlM_cons, List.foldlM_nil, Sem.run_bind, run_max2', Result.andThen_ok, Sem.run_pure]
theorem run_min_int3' (P : Program) (w : World) (ts : Array TypeId) (t : TypeId) (a b c : Int) : (Builtin.min_ ts t #[.int .i64 a, .int .i64 b, .int .i64 c]).run P w = .ok (.int .i64 (min (min a b) c)) w := by
  show (List.foldlM Builtin.min2 (Value.int .i64 a) [Value.int .i64 b, Value.int .i64 c]).run P w = _
  simp only [List.foldlM_cons, List.foldlM_nil, Sem.run_bind, run_min2', Result.andThen_ok, Sem.run_pure]
theorem run_max_int2' (P : Program) (w : World) (ts : Array TypeId) (t : TypeId) (a b : Int) : (Builtin.max_ ts t #[.int .i64 a, .int .i64 b]).run P w = .ok (.int .i64 (max a b)) w := by
  show (List.foldlM Builtin.max2 (Value.int .i64 a) [Value.int .i64 b]).run P w = _
  simp only [List.foldlM_cons, List.foldlM_nil, Sem.run_bind, run_max2', Result.andThen_ok, Sem.run_pure]
theorem run_min_int2' (P : Program) (w : World) (ts : Array TypeId) (t : TypeId) (a b : Int) : (Builtin.min_ ts t #[.int .i64 a, .int .i64 b]).run P w = .ok (.int .i64 (min a b)) w := by
  show (List.foldlM Builtin.min2 (Value.int .i64 a) [Value.int .i64 b]).run P w = _
  simp only [List.foldlM_cons, List.foldlM_nil, Sem.run_bind, run_min2', Result.andThen_ok, Sem.run_pure]

def Rg (z : Int) : Prop := -9223372036854775808 ≤ z ∧ z ≤ 9223372036854775807
section
variable {ρ : Operand → Value} {dst : Option Tmp} {ty : TypeId} {pos : String} {af : Array Edge} {x y : Operand} {w : World} {gd : Option (Nat × Bool)}
theorem run_add {i j : Int} (hx : ρ x = .int .i64 i) (hy : ρ y = .int .i64 j) (h : Rg (i + j)) :
    (execOp ρ { dst := dst, op := .binOp .add 3 x y 3, type := ty, pos := pos, after := af, guard := gd }).run Try.prog w = .ok (.value (.int .i64 (i + j))) w := by
  have e : IntKind.i64.wrap (i + j) = i + j := by unfold Rg at h; rw [IntKind.wrap_i64]; omega
  go_simp
theorem run_sub {i j : Int} (hx : ρ x = .int .i64 i) (hy : ρ y = .int .i64 j) (h : Rg (i - j)) :
    (execOp ρ { dst := dst, op := .binOp .sub 3 x y 3, type := ty, pos := pos, after := af, guard := gd }).run Try.prog w = .ok (.value (.int .i64 (i - j))) w := by
  have e : IntKind.i64.wrap (i - j) = i - j := by unfold Rg at h; rw [IntKind.wrap_i64]; omega
  go_simp
theorem run_mul {i j : Int} (hx : ρ x = .int .i64 i) (hy : ρ y = .int .i64 j) (h : Rg (i * j)) :
    (execOp ρ { dst := dst, op := .binOp .mul 3 x y 3, type := ty, pos := pos, after := af, guard := gd }).run Try.prog w = .ok (.value (.int .i64 (i * j))) w := by
  have e : IntKind.i64.wrap (i * j) = i * j := by unfold Rg at h; rw [IntKind.wrap_i64]; omega
  go_simp
theorem run_not {b : Bool} (hx : ρ x = .bool b) :
    (execOp ρ { dst := dst, op := .unOp .not 4 x, type := ty, pos := pos, after := af, guard := gd }).run Try.prog w = .ok (.value (.bool (!b))) w := by
  go_simp
theorem run_neg {i : Int} (hx : ρ x = .int .i64 i) (h : Rg (-i)) :
    (execOp ρ { dst := dst, op := .unOp .neg 3 x, type := ty, pos := pos, after := af, guard := gd }).run Try.prog w = .ok (.value (.int .i64 (-i))) w := by
  have e : IntKind.i64.wrap (-i) = -i := by unfold Rg at h; rw [IntKind.wrap_i64]; omega
  go_simp
theorem run_lss {i j : Int} (hx : ρ x = .int .i64 i) (hy : ρ y = .int .i64 j) :
    (execOp ρ { dst := dst, op := .binOp .lss 3 x y 3, type := ty, pos := pos, after := af, guard := gd }).run Try.prog w = .ok (.value (.bool (decide (i < j)))) w := by
  go_simp
theorem run_leq {i j : Int} (hx : ρ x = .int .i64 i) (hy : ρ y = .int .i64 j) :
    (execOp ρ { dst := dst, op := .binOp .leq 3 x y 3, type := ty, pos := pos, after := af, guard := gd }).run Try.prog w = .ok (.value (.bool (decide (i ≤ j)))) w := by
  go_simp
theorem run_gtr {i j : Int} (hx : ρ x = .int .i64 i) (hy : ρ y = .int .i64 j) :
    (execOp ρ { dst := dst, op := .binOp .gtr 3 x y 3, type := ty, pos := pos, after := af, guard := gd }).run Try.prog w = .ok (.value (.bool (decide (i > j)))) w := by
  go_simp
theorem run_geq {i j : Int} (hx : ρ x = .int .i64 i) (hy : ρ y = .int .i64 j) :
    (execOp ρ { dst := dst, op := .binOp .geq 3 x y 3, type := ty, pos := pos, after := af, guard := gd }).run Try.prog w = .ok (.value (.bool (decide (i ≥ j)))) w := by
  go_simp
theorem run_max2 {i0 i1 : Int} (hx : ρ x = .int .i64 i0) (hy : ρ y = .int .i64 i1) :
    (execOp ρ { dst := dst, op := .call { callee := .builtin .max, args := #[x, y], argTypes := #[3, 3] }, type := ty, pos := pos, after := af, guard := gd }).run Try.prog w = .ok (.value (.int .i64 (max i0 i1))) w := by
  have e := run_max_int2' Try.prog w #[3, 3] ty i0 i1
  unfold execOp
  simp only [resolve, invoke, builtin, Sem.run_bind, Sem.run_pure, Result.andThen_ok, List.map_toArray, List.map_cons, List.map_nil, hx, hy, e]
theorem run_min2 {i0 i1 : Int} (hx : ρ x = .int .i64 i0) (hy : ρ y = .int .i64 i1) :
    (execOp ρ { dst := dst, op := .call { callee := .builtin .min, args := #[x, y], argTypes := #[3, 3] }, type := ty, pos := pos, after := af, guard := gd }).run Try.prog w = .ok (.value (.int .i64 (min i0 i1))) w := by
  have e := run_min_int2' Try.prog w #[3, 3] ty i0 i1
  unfold execOp
  simp only [resolve, invoke, builtin, Sem.run_bind, Sem.run_pure, Result.andThen_ok, List.map_toArray, List.map_cons, List.map_nil, hx, hy, e]
theorem run_max3 {i0 i1 i2 : Int} {z : Operand} (hx : ρ x = .int .i64 i0) (hy : ρ y = .int .i64 i1) (hz : ρ z = .int .i64 i2) :
    (execOp ρ { dst := dst, op := .call { callee := .builtin .max, args := #[x, y, z], argTypes := #[3, 3, 3] }, type := ty, pos := pos, after := af, guard := gd }).run Try.prog w = .ok (.value (.int .i64 (max (max i0 i1) i2))) w := by
  have e := run_max_int3' Try.prog w #[3, 3, 3] ty i0 i1 i2
  unfold execOp
  simp only [resolve, invoke, builtin, Sem.run_bind, Sem.run_pure, Result.andThen_ok, List.map_toArray, List.map_cons, List.map_nil, hx, hy, hz, e]
theorem run_min3 {i0 i1 i2 : Int} {z : Operand} (hx : ρ x = .int .i64 i0) (hy : ρ y = .int .i64 i1) (hz : ρ z = .int .i64 i2) :
    (execOp ρ { dst := dst, op := .call { callee := .builtin .min, args := #[x, y, z], argTypes := #[3, 3, 3] }, type := ty, pos := pos, after := af, guard := gd }).run Try.prog w = .ok (.value (.int .i64 (min (min i0 i1) i2))) w := by
  have e := run_min_int3' Try.prog w #[3, 3, 3] ty i0 i1 i2
  unfold execOp
  simp only [resolve, invoke, builtin, Sem.run_bind, Sem.run_pure, Result.andThen_ok, List.map_toArray, List.map_cons, List.map_nil, hx, hy, hz, e]
theorem run_max5 {i0 i1 i2 i3 i4 : Int} {z u v : Operand} (hx : ρ x = .int .i64 i0) (hy : ρ y = .int .i64 i1) (hz : ρ z = .int .i64 i2) (hu : ρ u = .int .i64 i3) (hv : ρ v = .int .i64 i4) :
    (execOp ρ { dst := dst, op := .call { callee := .builtin .max, args := #[x, y, z, u, v], argTypes := #[3, 3, 3, 3, 3] }, type := ty, pos := pos, after := af, guard := gd }).run Try.prog w = .ok (.value (.int .i64 (max (max (max (max i0 i1) i2) i3) i4))) w := by
  have e := run_max_int5' Try.prog w #[3, 3, 3, 3, 3] ty i0 i1 i2 i3 i4
  unfold execOp
  simp only [resolve, invoke, builtin, Sem.run_bind, Sem.run_pure, Result.andThen_ok, List.map_toArray, List.map_cons, List.map_nil, hx, hy, hz, hu, hv, e]
theorem run_fld_pt0 {n j : Nat} (hx : ρ x = .pointer (some ⟨n, j, none⟩)) :
    (execOp ρ { dst := dst, op := .fieldAddr 23 x 0, type := ty, pos := pos, after := af, guard := gd }).run Try.prog w = .ok (.value (.pointer (some ⟨n, j, none⟩))) w := by
  go_simp
theorem run_fld_pt1 {n j : Nat} (hx : ρ x = .pointer (some ⟨n, j, none⟩)) :
    (execOp ρ { dst := dst, op := .fieldAddr 23 x 1, type := ty, pos := pos, after := af, guard := gd }).run Try.prog w = .ok (.value (.pointer (some ⟨n, j + 1, none⟩))) w := by
  go_simp
theorem run_fld_seg0 {n j : Nat} (hx : ρ x = .pointer (some ⟨n, j, none⟩)) :
    (execOp ρ { dst := dst, op := .fieldAddr 25 x 0, type := ty, pos := pos, after := af, guard := gd }).run Try.prog w = .ok (.value (.pointer (some ⟨n, j, none⟩))) w := by
  go_simp
theorem run_fld_seg1 {n j : Nat} (hx : ρ x = .pointer (some ⟨n, j, none⟩)) :
    (execOp ρ { dst := dst, op := .fieldAddr 25 x 1, type := ty, pos := pos, after := af, guard := gd }).run Try.prog w = .ok (.value (.pointer (some ⟨n, j + 1, none⟩))) w := by
  go_simp
theorem run_fld_seg2 {n j : Nat} (hx : ρ x = .pointer (some ⟨n, j, none⟩)) :
    (execOp ρ { dst := dst, op := .fieldAddr 25 x 2, type := ty, pos := pos, after := af, guard := gd }).run Try.prog w = .ok (.value (.pointer (some ⟨n, j + 2, none⟩))) w := by
  go_simp
theorem run_fld_seg3 {n j : Nat} (hx : ρ x = .pointer (some ⟨n, j, none⟩)) :
    (execOp ρ { dst := dst, op := .fieldAddr 25 x 3, type := ty, pos := pos, after := af, guard := gd }).run Try.prog w = .ok (.value (.pointer (some ⟨n, j + 3, none⟩))) w := by
  go_simp
theorem run_fld_seg4 {n j : Nat} (hx : ρ x = .pointer (some ⟨n, j, none⟩)) :
    (execOp ρ { dst := dst, op := .fieldAddr 25 x 4, type := ty, pos := pos, after := af, guard := gd }).run Try.prog w = .ok (.value (.pointer (some ⟨n, j + 4, none⟩))) w := by
  go_simp
theorem run_fld_seg5 {n j : Nat} (hx : ρ x = .pointer (some ⟨n, j, none⟩)) :
    (execOp ρ { dst := dst, op := .fieldAddr 25 x 5, type := ty, pos := pos, after := af, guard := gd }).run Try.prog w = .ok (.value (.pointer (some ⟨n, j + 5, none⟩))) w := by
  go_simp
theorem run_fld_cu0 {n j : Nat} (hx : ρ x = .pointer (some ⟨n, j, none⟩)) :
    (execOp ρ { dst := dst, op := .fieldAddr 74 x 0, type := ty, pos := pos, after := af, guard := gd }).run Try.prog w = .ok (.value (.pointer (some ⟨n, j, none⟩))) w := by
  go_simp
theorem run_fld_cu1 {n j : Nat} (hx : ρ x = .pointer (some ⟨n, j, none⟩)) :
    (execOp ρ { dst := dst, op := .fieldAddr 74 x 1, type := ty, pos := pos, after := af, guard := gd }).run Try.prog w = .ok (.value (.pointer (some ⟨n, j + 2, none⟩))) w := by
  go_simp
theorem run_fld_cu2 {n j : Nat} (hx : ρ x = .pointer (some ⟨n, j, none⟩)) :
    (execOp ρ { dst := dst, op := .fieldAddr 74 x 2, type := ty, pos := pos, after := af, guard := gd }).run Try.prog w = .ok (.value (.pointer (some ⟨n, j + 4, none⟩))) w := by
  go_simp
theorem run_fld_cu3 {n j : Nat} (hx : ρ x = .pointer (some ⟨n, j, none⟩)) :
    (execOp ρ { dst := dst, op := .fieldAddr 74 x 3, type := ty, pos := pos, after := af, guard := gd }).run Try.prog w = .ok (.value (.pointer (some ⟨n, j + 6, none⟩))) w := by
  go_simp
theorem run_buildPt {i j : Int} (hx : ρ x = .int .i64 i) (hy : ρ y = .int .i64 j) :
    (execOp ρ { dst := dst, op := .build 23 #[(0, x), (1, y)], type := ty, pos := pos, after := af, guard := gd }).run Try.prog w = .ok (.value (pt i j)) w := by
  go_simp
theorem run_storePt {B : Nat} {a0 a1 : Int} {u0 u1 : Value} (hp : ρ x = .pointer (some ⟨B, 0, none⟩)) (hq : ρ y = pt a0 a1) (hV : Var w B #[u0, u1] 23) :
    (execOp ρ { dst := dst, op := .store 23 x y, type := ty, pos := pos, after := af, guard := gd }).run Try.prog w = .ok .skip ((w.setCell ⟨B, 0, none⟩ (.int .i64 a0)).setCell ⟨B, 1, none⟩ (.int .i64 a1)) := by
  obtain ⟨q0, q1, qf⟩ := hV.read2
  go_simp
theorem run_loadCu {n : Nat} {c : Cu} (hx : ρ x = .pointer (some ⟨n, 0, none⟩)) (hV : Var w n (ccel c) 74) :
    (execOp ρ { dst := dst, op := .load 74 x, type := ty, pos := pos, after := af, guard := gd }).run Try.prog w = .ok (.value (cuv c)) w := by
  obtain ⟨c0, c1, c2, c3, c4, c5, c6, -⟩ := hV.read7
  go_simp
theorem run_loadPt {n : Nat} {p : P2} (hx : ρ x = .pointer (some ⟨n, 0, none⟩)) (hV : Var w n (pcel p) 23) :
    (execOp ρ { dst := dst, op := .load 23 x, type := ty, pos := pos, after := af, guard := gd }).run Try.prog w = .ok (.value (ptv p)) w := by
  obtain ⟨c0, c1, -⟩ := hV.read2
  go_simp
theorem run_loadSegV {n : Nat} {s : Sg} (hx : ρ x = .pointer (some ⟨n, 0, none⟩)) (hV : Var w n (cel s) 25) :
    (execOp ρ { dst := dst, op := .load 25 x, type := ty, pos := pos, after := af, guard := gd }).run Try.prog w = .ok (.value (seg s)) w := by
  obtain ⟨c0, c1, c2, c3, c4, c5, -⟩ := hV.read6
  go_simp
theorem run_allocPt : (execOp ρ { dst := dst, op := .alloc 23, type := ty, pos := pos, after := af, guard := gd }).run Try.prog w = .ok (.value (.pointer (some ⟨w.heap.size, 0, none⟩))) (w.alloc (.cells #[.int .i64 0, .int .i64 0] 23)) := by
  go_simp
theorem run_call3 {P : Program} {g : FuncId} {ts : Array TypeId} {z : Operand} (hf : ρ (.func g) = .func (.func g) #[] #[]) (he : Enters P g) :
    (execOp ρ { dst := dst, op := .call { callee := .value (.func g), args := #[x, y, z], argTypes := ts }, type := ty, pos := pos, after := af, guard := gd }).run P w = .ok (.enter g #[ρ x, ρ y, ρ z]) w := by
  have e : ∀ args w, (callFunc g args).run P w = .ok (.enter g args) w := he
  go_simp
theorem run_call4 {P : Program} {g : FuncId} {ts : Array TypeId} {z u : Operand} (hf : ρ (.func g) = .func (.func g) #[] #[]) (he : Enters P g) :
    (execOp ρ { dst := dst, op := .call { callee := .value (.func g), args := #[x, y, z, u], argTypes := ts }, type := ty, pos := pos, after := af, guard := gd }).run P w = .ok (.enter g #[ρ x, ρ y, ρ z, ρ u]) w := by
  have e : ∀ args w, (callFunc g args).run P w = .ok (.enter g args) w := he
  go_simp
theorem run_buildCu {x0 x1 x2 x3 : Operand} {p q r : P2} {k : Int} (h0 : ρ x0 = ptv p) (h1 : ρ x1 = ptv q) (h2 : ρ x2 = ptv r) (h3 : ρ x3 = .int .i64 k) :
    (execOp ρ { dst := dst, op := .build 74 #[(0, x0), (1, x1), (2, x2), (3, x3)], type := ty, pos := pos, after := af, guard := gd }).run Try.prog w = .ok (.value (cuv ⟨p, q, r, k⟩)) w := by
  go_simp
theorem run_allocCu : (execOp ρ { dst := dst, op := .alloc 74, type := ty, pos := pos, after := af, guard := gd }).run Try.prog w = .ok (.value (.pointer (some ⟨w.heap.size, 0, none⟩))) (w.alloc (.cells #[.int .i64 0, .int .i64 0, .int .i64 0, .int .i64 0, .int .i64 0, .int .i64 0, .int .i64 0] 74)) := by
  go_simp
theorem run_storeCu {B : Nat} {c : Cu} {u0 u1 u2 u3 u4 u5 u6 : Value} (hp : ρ x = .pointer (some ⟨B, 0, none⟩)) (hq : ρ y = cuv c) (hV : Var w B #[u0, u1, u2, u3, u4, u5, u6] 74) :
    (execOp ρ { dst := dst, op := .store 74 x y, type := ty, pos := pos, after := af, guard := gd }).run Try.prog w = .ok .skip (((((((w.setCell ⟨B, 0, none⟩ (.int .i64 c.p.x)).setCell ⟨B, 1, none⟩ (.int .i64 c.p.y)).setCell ⟨B, 2, none⟩ (.int .i64 c.q.x)).setCell ⟨B, 3, none⟩ (.int .i64 c.q.y)).setCell ⟨B, 4, none⟩ (.int .i64 c.r.x)).setCell ⟨B, 5, none⟩ (.int .i64 c.r.y)).setCell ⟨B, 6, none⟩ (.int .i64 c.w)) := by
  obtain ⟨q0, q1, q2, q3, q4, q5, q6, qf⟩ := hV.read7
  go_simp
theorem run_litPt {a b : Int} (hx : ρ x = pt a b) :
    (execOp ρ { dst := dst, op := .buildSlice 27 1 #[(0, x)], type := ty, pos := pos, after := af, guard := gd }).run Try.prog w = .ok (.value (.slice (some ⟨w.heap.size, 0, none⟩) 1 1)) (w.alloc (.cells #[.int .i64 a, .int .i64 b] 23)) := by
  go_simp
theorem run_indexPt {a : Addr} {j : Int} {n c : Nat} (hx : ρ x = .slice (some a) n c) (hy : ρ y = .int .i64 j) (h0 : 0 ≤ j) (hj : j < (n : Int)) :
    (execOp ρ { dst := dst, op := .indexAddr 27 x y, type := ty, pos := pos, after := af, guard := gd }).run Try.prog w = .ok (.value (.pointer (some (a.add (j.toNat * 2))))) w := by
  go_simp
theorem run_storeRow {B j : Nat} {a b : Int} {cs : Array Value} (hp : ρ x = .pointer (some ⟨B, j, none⟩)) (hq : ρ y = pt a b) (hV : Var w B cs 23) (hj : j + 1 < cs.size) :
    (execOp ρ { dst := dst, op := .store 23 x y, type := ty, pos := pos, after := af, guard := gd }).run Try.prog w = .ok .skip ((w.setCell ⟨B, j, none⟩ (.int .i64 a)).setCell ⟨B, j + 1, none⟩ (.int .i64 b)) := by
  have q0 : w.cell? ⟨B, j, none⟩ = some (cs[j]'(by omega)) := (hV.cell j).trans (Array.getElem?_eq_getElem _)
  have q1 : w.cell? ⟨B, j + 1, none⟩ = some (cs[j + 1]'hj) := (hV.cell (j + 1)).trans (Array.getElem?_eq_getElem _)
  have qf := hV.free
  go_simp
end
section
variable {P : Program} {ops : Array Oper} {s i n : Nat} {C : Bool → World → Prop} {K : (Nat → Value) → Prop} {f : Nat → Value} {d : Tmp} {op : Op} {ty : TypeId} {pos : String} {af : Array Edge} {gd : Option (Nat × Bool)}
/-- An operation that reads. -/
theorem st_read {v : Value} (hs : Nat.beq i s = false) (hd : Nat.blt d n = true) (h : ∀ b w, C b w → (execOp (env f) { dst := some d, op := op, type := ty, pos := pos, after := af, guard := gd }).run P w = .ok (.value v) w) (k : K (upd f d v))
    (hw : Region.wanted { dst := some d, op := op, type := ty, pos := pos, after := af, guard := gd } (yieldE ops f) = true := by exact rfl) : Yields P ops s C n i { dst := some d, op := op, type := ty, pos := pos, after := af, guard := gd } f K :=
  ⟨d, _, rfl, by simpa using hd, .inl ⟨hw, fun b w _ hC => by rw [h b w hC]; exact ⟨flag_same hs hC, rfl⟩⟩, k⟩
end
theorem tail2s {ops : Array Oper} {R : Exit → Act → World → Prop} {a : Act} {w : World} {B : Nat} {p q : Operand} {ty : TypeId} {pos : String} {af : Array Edge} {a0 a1 : Int} {u0 u1 : Value}
    (hp : a.eval p = .pointer (some ⟨B, 0, none⟩)) (hq : a.eval q = pt a0 a1) (hV : Var w B #[u0, u1] 23) (h : R .normal a ((w.setCell ⟨B, 0, none⟩ (.int .i64 a0)).setCell ⟨B, 1, none⟩ (.int .i64 a1))) :
    wpList Try.prog ops R [{ dst := none, op := .store 23 p q, type := ty, pos := pos, after := af, guard := none }] a w :=
  wpList_skip rfl rfl (run_storePt hp hq hV) h
theorem Var.set2 {w : World} {n : Nat} {a b p q : Value} {ty : TypeId} (h : Var w n #[a, b] ty) : Var ((w.setCell ⟨n, 0, none⟩ p).setCell ⟨n, 1, none⟩ q) n #[p, q] ty := ((h.set (i := 0) p).set (i := 1) q)
theorem Var.far2 {w : World} {n m : Nat} {c : Array Value} {ty : TypeId} {p q : Value} (h : Var w n c ty) (hn : n ≠ m) : Var ((w.setCell ⟨m, 0, none⟩ p).setCell ⟨m, 1, none⟩ q) n c ty :=
  (h.far (p := ⟨m, 0, none⟩) hn p).far (p := ⟨m, 1, none⟩) hn q
theorem below_set2 {B : Nat} {w0 w : World} {b : Nat} {p q : Value} (h : Below B w0 w) (hb : B ≤ b) : Below B w0 ((w.setCell ⟨b, 0, none⟩ p).setCell ⟨b, 1, none⟩ q) :=
  (h.setCell (p := ⟨b, 0, none⟩) hb p).setCell (p := ⟨b, 1, none⟩) hb q
theorem load2 {w : World} {B : Nat} {x y : Int} (hV : Var w B #[.int .i64 x, .int .i64 y] 23) : (loadVar 23 ⟨B, 0, none⟩).run Try.prog w = .ok (pt x y) w := by
  obtain ⟨c0, c1, -⟩ := hV.read2
  simp [go_sem, *]
theorem retP {fn : Func} {p : Tmp} {R : Ending → World → Prop} {tmps : Array Value} {w : World} {B : Nat} {x y : Int} (h : fn.results = #[.cell p 23]) (hp : tmps.getD p undef = .pointer (some ⟨B, 0, none⟩))
    (hV : Var w B #[.int .i64 x, .int .i64 y] 23) (hR : R (.returned (pt x y)) w) : bodyPost Try.prog fn R .ret ⟨tmps, []⟩ w :=
  bodyPost_ret (v := pt x y) (by
    show (results fn tmps).run _ w = _
    have e := load2 hV
    have hp' := hp
    rw [Array.getD_eq_getD_getElem?] at hp'
    simp [results, h, hp', asAddr, e]) rfl hR
theorem Var.set7 {w : World} {n : Nat} {a b c d e f g p q r s t u v : Value} {ty : TypeId} (h : Var w n #[a, b, c, d, e, f, g] ty) :
    Var (((((((w.setCell ⟨n, 0, none⟩ p).setCell ⟨n, 1, none⟩ q).setCell ⟨n, 2, none⟩ r).setCell ⟨n, 3, none⟩ s).setCell ⟨n, 4, none⟩ t).setCell ⟨n, 5, none⟩ u).setCell ⟨n, 6, none⟩ v) n #[p, q, r, s, t, u, v] ty := by
  replace h := h.set (i := 0) p
  rw [show (#[a, b, c, d, e, f, g] : Array Value).setIfInBounds 0 p = #[p, b, c, d, e, f, g] from rfl] at h
  replace h := h.set (i := 1) q
  rw [show (#[p, b, c, d, e, f, g] : Array Value).setIfInBounds 1 q = #[p, q, c, d, e, f, g] from rfl] at h
  replace h := h.set (i := 2) r
  rw [show (#[p, q, c, d, e, f, g] : Array Value).setIfInBounds 2 r = #[p, q, r, d, e, f, g] from rfl] at h
  replace h := h.set (i := 3) s
  rw [show (#[p, q, r, d, e, f, g] : Array Value).setIfInBounds 3 s = #[p, q, r, s, e, f, g] from rfl] at h
  replace h := h.set (i := 4) t
  rw [show (#[p, q, r, s, e, f, g] : Array Value).setIfInBounds 4 t = #[p, q, r, s, t, f, g] from rfl] at h
  replace h := h.set (i := 5) u
  rw [show (#[p, q, r, s, t, f, g] : Array Value).setIfInBounds 5 u = #[p, q, r, s, t, u, g] from rfl] at h
  replace h := h.set (i := 6) v
  rw [show (#[p, q, r, s, t, u, g] : Array Value).setIfInBounds 6 v = #[p, q, r, s, t, u, v] from rfl] at h
  exact h
theorem below_set7 {B : Nat} {w0 w : World} {b : Nat} {p q r s t u v : Value} (h : Below B w0 w) (hb : B ≤ b) :
    Below B w0 (((((((w.setCell ⟨b, 0, none⟩ p).setCell ⟨b, 1, none⟩ q).setCell ⟨b, 2, none⟩ r).setCell ⟨b, 3, none⟩ s).setCell ⟨b, 4, none⟩ t).setCell ⟨b, 5, none⟩ u).setCell ⟨b, 6, none⟩ v) :=
  (((((((h.setCell (p := ⟨b, 0, none⟩) hb p).setCell (p := ⟨b, 1, none⟩) hb q).setCell (p := ⟨b, 2, none⟩) hb r).setCell (p := ⟨b, 3, none⟩) hb s).setCell (p := ⟨b, 4, none⟩) hb t).setCell (p := ⟨b, 5, none⟩) hb u).setCell (p := ⟨b, 6, none⟩) hb v)
/-- All blocks but m are as they were. -/
def SameBut (m : Nat) (w w' : World) : Prop := ∀ k, k ≠ m → w'.heap[k]? = w.heap[k]?
theorem SameBut.refl (m : Nat) (w : World) : SameBut m w w := fun _ _ => rfl
theorem SameBut.set {m : Nat} {w w' : World} (h : SameBut m w w') (j : Nat) (u : Value) : SameBut m w (w'.setCell ⟨m, j, none⟩ u) := fun k hk => (Below.heap_setCell _ _ _ _ hk).trans (h k hk)
theorem same2 {w : World} {m j j' : Nat} {p q : Value} : SameBut m w ((w.setCell ⟨m, j, none⟩ p).setCell ⟨m, j', none⟩ q) := ((SameBut.refl m w).set j p).set j' q
theorem same7 {w : World} {m : Nat} {p q r s t u v : Value} :
    SameBut m w (((((((w.setCell ⟨m, 0, none⟩ p).setCell ⟨m, 1, none⟩ q).setCell ⟨m, 2, none⟩ r).setCell ⟨m, 3, none⟩ s).setCell ⟨m, 4, none⟩ t).setCell ⟨m, 5, none⟩ u).setCell ⟨m, 6, none⟩ v) :=
  (((((((SameBut.refl m w).set 0 p).set 1 q).set 2 r).set 3 s).set 4 t).set 5 u).set 6 v
theorem size7 {a : Array Value} (h : a.size = 7) : ∃ u0 u1 u2 u3 u4 u5 u6, a = #[u0, u1, u2, u3, u4, u5, u6] := by
  obtain ⟨l⟩ := a
  match l, h with
  | [a, b, c, d, e, f, g], _ => exact ⟨a, b, c, d, e, f, g, rfl⟩
theorem size2 {a : Array Value} (h : a.size = 2) : ∃ u0 u1, a = #[u0, u1] := by
  obtain ⟨l⟩ := a
  match l, h with
  | [a, b], _ => exact ⟨a, b, rfl⟩

end Go.Proofs.Ytcdedefhofkbhaa
