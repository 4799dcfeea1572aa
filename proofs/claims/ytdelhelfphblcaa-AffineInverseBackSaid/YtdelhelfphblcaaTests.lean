/- Regions that draw their order and end in a test of several parts: loads of structs, equalities, the answer. -/
import Derived.Test.YtdelhelfphblcaaCls
namespace Go.Proofs.Ytdelhelfphblcaa
open Go Go.RowKit
set_option linter.unusedVariables false

section
variable {ρ : Operand → Value} {dst : Option Tmp} {ty : TypeId} {pos : String} {af : Array Edge} {x y : Operand} {w : World} {gd : Option (Nat × Bool)}
theorem run_load6 {B : Nat} {a b c d e f : Int} (hx : ρ x = .pointer (some ⟨B, 0, none⟩)) (hV : Var w B #[.int .i64 a, .int .i64 b, .int .i64 c, .int .i64 d, .int .i64 e, .int .i64 f] 23) :
    (execOp ρ { dst := dst, op := .load 23 x, type := ty, pos := pos, after := af, guard := gd }).run Try.prog w = .ok (.value (mx a b c d e f)) w := by
  obtain ⟨c0, c1, c2, c3, c4, c5, -⟩ := hV.read6
  go_simp
theorem run_eql27 {m : Int} (hx : ρ x = .int .i64 m) (hy : ρ y = .int .i64 m) :
    (execOp ρ { dst := dst, op := .binOp .eql 27 x y 27, type := ty, pos := pos, after := af, guard := gd }).run Try.prog w = .ok (.value (.bool true)) w := by
  go_simp
theorem run_eql23 {a b c d e f : Int} (hx : ρ x = mx a b c d e f) (hy : ρ y = mx a b c d e f) :
    (execOp ρ { dst := dst, op := .binOp .eql 23 x y 23, type := ty, pos := pos, after := af, guard := gd }).run Try.prog w = .ok (.value (.bool true)) w := by
  go_simp
theorem run_leq {m n : Int} (hx : ρ x = .int .i64 m) (hy : ρ y = .int .i64 n) (h : m ≤ n) :
    (execOp ρ { dst := dst, op := .binOp .leq 3 x y 3, type := ty, pos := pos, after := af, guard := gd }).run Try.prog w = .ok (.value (.bool true)) w := by
  go_simp
end

section
variable {ops : Array Oper} {s i n : Nat} {C : Bool → World → Prop} {K : (Nat → Value) → Prop} {f : Nat → Value} {d : Tmp} {ty : TypeId} {pos : String} {af : Array Edge} {gd : Option (Nat × Bool)} {x y : Operand}
theorem st_load6 {B : Nat} {a0 a1 a2 a3 a4 a5 : Int} (hV : ∀ b w, C b w → Var w B #[.int .i64 a0, .int .i64 a1, .int .i64 a2, .int .i64 a3, .int .i64 a4, .int .i64 a5] 23) (hs : Nat.beq i s = false) (hd : Nat.blt d n = true) (hx : env f x = .pointer (some ⟨B, 0, none⟩)) (k : K (upd f d (mx a0 a1 a2 a3 a4 a5)))
    (hw : Region.wanted { dst := some d, op := .load 23 x, type := ty, pos := pos, after := af, guard := gd } (yieldE ops f) = true := by exact rfl) :
    Yields Try.prog ops s C n i { dst := some d, op := .load 23 x, type := ty, pos := pos, after := af, guard := gd } f K :=
  ⟨d, _, rfl, by simpa using hd, .inl ⟨hw, fun b w _ hC => by rw [run_load6 hx (hV b w hC)]; exact ⟨flag_same hs hC, rfl⟩⟩, k⟩
end

/-- The last write of a region, of a slot. -/
theorem tailB {P : Program} {ops : Array Oper} {R : Exit → Act → World → Prop} {a : Act} {w : World} {x : Operand} {u : Tmp} {ty : TypeId} {pos : String} {af : Array Edge} (h : R .normal (a.put (some u) (a.eval x)) w) :
    wpList P ops R [{ dst := some u, op := .assign x, type := ty, pos := pos, after := af, guard := none }] a w := wpList_value rfl rfl h
theorem retB_is {fn : Func} {u : Tmp} {R : Ending → World → Prop} {a : Act} {n : Nat} {f : Nat → Value} {w : World} {v : Value} (ha : Is a n f) (h : fn.results = #[.tmp u]) (hu : f u = v) (hR : R (.returned v) w) : bodyPost Try.prog fn R .ret a w := by
  obtain ⟨tmps, ds⟩ := a
  obtain ⟨h1, _, h3⟩ := ha
  simp only at h1 h3
  subst h1
  refine bodyPost_ret (v := v) ?_ rfl hR
  rw [results_tmp h, h3 u, hu]

theorem chk_over {W : World} {u : Value} {a b c d e f : Int} {g : Bool} {w : World} (h : Over W g w) (hu : u = mx a b c d e f) : Calls Try.prog 22 #[u] w fun r w' => r = .returned (.int .i64 (errM a b c d e f)) ∧ Over W g w' := by
  subst hu
  exact (chk_any _ _ _ _ _ _ w).mono fun r w' ⟨hr, hb⟩ => ⟨hr, h.next hb⟩
theorem mchk_over {W : World} {u : Value} {a b c d e f : Int} {g : Bool} {w : World} (h : Over W g w) (hu : u = mx a b c d e f) : Calls Try.prog 21 #[u] w fun r w' => r = .returned (.int .i64 (errM a b c d e f)) ∧ Over W g w' := by
  subst hu
  exact (mchk_any _ _ _ _ _ _ w).mono fun r w' ⟨hr, hb⟩ => ⟨hr, h.next hb⟩
section
variable {a : Act} {x : Operand} {ty : TypeId} {pos : String} {af : Array Edge} {gd : Option (Nat × Bool)} {ρ : Operand → Value} {w : World} {ts : Array TypeId} {dst : Option Tmp}
theorem run_call22 (hf : ρ (.func 22) = .func (.func 22) #[] #[]) :
    (execOp ρ { dst := dst, op := .call { callee := .value (.func 22), args := #[x], argTypes := ts }, type := ty, pos := pos, after := af, guard := gd }).run Try.prog w = .ok (.enter 22 #[ρ x]) w := by
  go_simp
theorem run_call21 (hf : ρ (.func 21) = .func (.func 21) #[] #[]) :
    (execOp ρ { dst := dst, op := .call { callee := .value (.func 21), args := #[x], argTypes := ts }, type := ty, pos := pos, after := af, guard := gd }).run Try.prog w = .ok (.enter 21 #[ρ x]) w := by
  go_simp
theorem run_call16 (hf : ρ (.func 16) = .func (.func 16) #[] #[]) :
    (execOp ρ { dst := dst, op := .call { callee := .value (.func 16), args := #[x], argTypes := ts }, type := ty, pos := pos, after := af, guard := gd }).run Try.prog w = .ok (.enter 16 #[ρ x]) w := by
  go_simp
theorem run_call13 (hf : ρ (.func 13) = .func (.func 13) #[] #[]) :
    (execOp ρ { dst := dst, op := .call { callee := .value (.func 13), args := #[x], argTypes := ts }, type := ty, pos := pos, after := af, guard := gd }).run Try.prog w = .ok (.enter 13 #[ρ x]) w := by
  go_simp
end

end Go.Proofs.Ytdelhelfphblcaa
