/- Regions that draw their order and make one new block: the class of their worlds, and the steps. -/
import Derived.Test.YtcdedefhofkbhaaAfSteps
namespace Go.Proofs.Ytcdedefhofkbhaa.Af
open Go Go.RowKit
set_option linter.unusedVariables false

/-- W behind some draws, and behind the new block z where b says so. -/
def Cls (W : World) (z : Obj) (b : Bool) (w : World) : Prop := ∃ n, w = (cond b (W.alloc z) W).drewN n
theorem Cls.start (W : World) (z : Obj) : Cls W z false W.drew := ⟨1, rfl⟩
theorem Cls.var {W : World} {z : Obj} {b : Bool} {w : World} {n : Nat} {c : Array Value} {t : TypeId} (hV : Var W n c t) (h : Cls W z b w) : Var w n c t := by
  obtain ⟨k, rfl⟩ := h
  cases b
  · exact hV
  · exact hV.alloc z
theorem Cls.drawn {W : World} {z : Obj} {b : Bool} {w w' : World} (h : Cls W z b w) (k : Drawn w w') : Cls W z b w' := by
  obtain ⟨n, rfl⟩ := h
  obtain ⟨m, rfl⟩ := k
  exact ⟨n + m, World.drewN_drewN ..⟩
theorem Cls.below {W : World} {z : Obj} {b : Bool} {w : World} (h : Cls W z b w) : Below W.heap.size W w := by
  obtain ⟨k, rfl⟩ := h
  cases b
  · exact below_drewN (Below.refl _ W) k
  · exact below_drewN (below_alloc (Below.refl _ W) z) k
theorem Cls.new {W : World} {c : Array Value} {t : TypeId} {w : World} (h : Cls W (.cells c t) true w) : Var w W.heap.size c t := by
  obtain ⟨k, rfl⟩ := h
  exact Var.new W c t _ rfl

section
variable {ops : Array Oper} {s i n : Nat} {K : (Nat → Value) → Prop} {f : Nat → Value} {d : Tmp} {ty : TypeId} {pos : String} {af : Array Edge} {gd : Option (Nat × Bool)}
set_option maxRecDepth 100000 in
theorem st_alloc23 {W : World} (hs : Nat.beq i s = true) (hd : Nat.blt d n = true) (k : K (upd f d (.pointer (some ⟨W.heap.size, 0, none⟩)))) :
    Yields Try.prog ops s (Cls W (.cells #[.int .i64 0, .int .i64 0, .int .i64 0, .int .i64 0, .int .i64 0, .int .i64 0] 48)) n i { dst := some d, op := .alloc 48, type := ty, pos := pos, after := af, guard := none } f K := by
  obtain rfl := Nat.eq_of_beq_eq_true hs
  refine ⟨d, _, rfl, by simpa using hd, .inl ⟨rfl, fun b w hb hC => ?_⟩, k⟩
  obtain rfl := hb rfl
  obtain ⟨m, rfl⟩ := hC
  rw [run_alloc23]
  exact ⟨⟨m, by simp; rfl⟩, rfl⟩
set_option maxRecDepth 100000 in
theorem st_alloc25 {W : World} (hs : Nat.beq i s = true) (hd : Nat.blt d n = true) (k : K (upd f d (.pointer (some ⟨W.heap.size, 0, none⟩)))) :
    Yields Try.prog ops s (Cls W (.cells #[.int .i64 0, .int .i64 0] 23)) n i { dst := some d, op := .alloc 23, type := ty, pos := pos, after := af, guard := none } f K := by
  obtain rfl := Nat.eq_of_beq_eq_true hs
  refine ⟨d, _, rfl, by simpa using hd, .inl ⟨rfl, fun b w hb hC => ?_⟩, k⟩
  obtain rfl := hb rfl
  obtain ⟨m, rfl⟩ := hC
  rw [run_alloc25]
  exact ⟨⟨m, by simp; rfl⟩, rfl⟩
end

theorem round_cls {W : World} {z : Obj} {u : Value} {X' : Int} {b : Bool} {w : World} {p q r : Int} (h : Cls W z b w) (hu : u = .int .i64 X') (hp : Sm p) (hq : Sm q) (hr : Sm r) (hX : X' = IntKind.i64.wrap (IntKind.i64.wrap (IntKind.i64.wrap p + IntKind.i64.wrap q) + r)) :
    Calls Try.prog 37 #[u, .int .i64 4096] w fun e w' => e = .returned (.int .i64 (rnd (p + q + r) 4096)) ∧ Cls W z b w' := by
  subst hu hX
  rw [lin3 hp hq hr]
  unfold Sm at hp hq hr
  exact (round_any _ _ w (by omega) (by omega) (by omega) (by omega)).mono fun e w' ⟨he, hd⟩ => ⟨he, h.drawn hd⟩

/-- Down by 8192 of what the reference hands it is the rounded quotient. -/
theorem down_cls {W : World} {z : Obj} {u : Value} {X' : Int} {b : Bool} {w : World} {p q r : Int} (h : Cls W z b w) (hu : u = .int .i64 X') (hp : Sm p) (hq : Sm q) (hr : Sm r)
    (hX : X' = IntKind.i64.wrap (IntKind.i64.wrap (2 * IntKind.i64.wrap (IntKind.i64.wrap (IntKind.i64.wrap p + IntKind.i64.wrap q) + r)) + 4096)) :
    Calls Try.prog 55 #[u, .int .i64 8192] w fun e w' => e = .returned (.int .i64 (rnd (p + q + r) 4096)) ∧ Cls W z b w' := by
  subst hu hX
  rw [lin3 hp hq hr]
  unfold Sm at hp hq hr
  rw [wrap_id (z := 2 * (p + q + r)) (by omega), wrap_id (by omega)]
  exact (down_any _ _ w (by omega) (by omega) (by omega) (by omega)).mono fun e w' ⟨he, hd⟩ => ⟨he, hd ▸ h⟩

theorem tail6s {ops : Array Oper} {R : Exit → Act → World → Prop} {a : Act} {w : World} {B : Nat} {p q : Operand} {ty : TypeId} {pos : String} {af : Array Edge} {a0 a1 a2 a3 a4 a5 : Int}
    (hp : a.eval p = .pointer (some ⟨B, 0, none⟩)) (hq : a.eval q = mx a0 a1 a2 a3 a4 a5) (hV : Var w B #[.int .i64 0, .int .i64 0, .int .i64 0, .int .i64 0, .int .i64 0, .int .i64 0] 48)
    (h : R .normal a ((((((w.setCell ⟨B, 0, none⟩ (.int .i64 a0)).setCell ⟨B, 1, none⟩ (.int .i64 a1)).setCell ⟨B, 2, none⟩ (.int .i64 a2)).setCell ⟨B, 3, none⟩ (.int .i64 a3)).setCell ⟨B, 4, none⟩ (.int .i64 a4)).setCell ⟨B, 5, none⟩ (.int .i64 a5))) :
    wpList Try.prog ops R [{ dst := none, op := .store 48 p q, type := ty, pos := pos, after := af, guard := none }] a w :=
  wpList_skip rfl rfl (run_store6 hp hq hV) h
theorem tail2s {ops : Array Oper} {R : Exit → Act → World → Prop} {a : Act} {w : World} {B : Nat} {p q : Operand} {ty : TypeId} {pos : String} {af : Array Edge} {a0 a1 : Int}
    (hp : a.eval p = .pointer (some ⟨B, 0, none⟩)) (hq : a.eval q = pt a0 a1) (hV : Var w B #[.int .i64 0, .int .i64 0] 23) (h : R .normal a ((w.setCell ⟨B, 0, none⟩ (.int .i64 a0)).setCell ⟨B, 1, none⟩ (.int .i64 a1))) :
    wpList Try.prog ops R [{ dst := none, op := .store 23 p q, type := ty, pos := pos, after := af, guard := none }] a w :=
  wpList_skip rfl rfl (run_store2 hp hq hV) h

/-- The answer of a function that has worked out a point, or its first error e0 (0: none). -/
structure PtIs (e0 x y : Int) (v : Value) (r : Int) : Prop where
  good : e0 = 0 → Wi 32767 [x, y] → v = pt x y ∧ r = 0
  over : e0 = 0 → ¬ Wi 32767 [x, y] → v = pt 0 0 ∧ r = 10
  bad : e0 ≠ 0 → v = pt 0 0 ∧ r = e0
theorem PtIs.mk' (e0 x y : Int) : ∃ x' y' r, PtIs e0 x y (pt x' y') r := by
  by_cases h0 : e0 = 0
  · by_cases h : Wi 32767 [x, y]
    · exact ⟨x, y, 0, fun _ _ => ⟨rfl, rfl⟩, fun _ k => absurd h k, fun k => absurd h0 k⟩
    · exact ⟨0, 0, 10, fun _ k => absurd k h, fun _ _ => ⟨rfl, rfl⟩, fun k => absurd h0 k⟩
  · exact ⟨0, 0, e0, fun k => absurd k h0, fun k => absurd k h0, fun _ => ⟨rfl, rfl⟩⟩
/-- What Apply answers. -/
def AppIs (a b c d e f x y : Int) (v : Value) (r : Int) : Prop :=
  PtIs (if Good a b c d e f ∧ Wi 32767 [x, y] then 0 else 3) (rnd (a * x + c * y + e) 4096) (rnd (b * x + d * y + f) 4096) v r

theorem far6 {w : World} {n m : Nat} {c : Array Value} {ty : TypeId} {p q r s t u : Value} (h : Var w n c ty) (hn : n ≠ m) :
    Var ((((((w.setCell ⟨m, 0, none⟩ p).setCell ⟨m, 1, none⟩ q).setCell ⟨m, 2, none⟩ r).setCell ⟨m, 3, none⟩ s).setCell ⟨m, 4, none⟩ t).setCell ⟨m, 5, none⟩ u) n c ty :=
  (((((h.far (p := ⟨m, 0, none⟩) hn p).far (p := ⟨m, 1, none⟩) hn q).far (p := ⟨m, 2, none⟩) hn r).far (p := ⟨m, 3, none⟩) hn s).far (p := ⟨m, 4, none⟩) hn t).far (p := ⟨m, 5, none⟩) hn u

end Go.Proofs.Ytcdedefhofkbhaa.Af
