/- The steps of a walk through a region that draws its order. -/
import Derived.Test.YtcdedefhofkbhaaAfRef
import Derived.Test.YtcdedefhofkbhaaAfNum
import Derived.Test.YtcdedefhofkbhaaAfFan
import Derived.Laws.BitsLemmas
namespace Go.Proofs.Ytcdedefhofkbhaa.Af
open Go Go.RowKit
set_option linter.unusedVariables false

/-! ### Frames as functions: a slot's value is found by looking at the last writes -/
def upd (f : Nat → Value) (d : Nat) (v : Value) : Nat → Value := fun i => bif Nat.beq i d then v else f i
def env (f : Nat → Value) : Operand → Value
  | .tmp t => f t
  | .const v => v
  | .global g => .pointer (some ⟨g, 0, none⟩)
  | .func g => .func (.func g) #[] #[]
/-- The frame a has n slots, and they hold f. -/
def Is (a : Act) (n : Nat) (f : Nat → Value) : Prop := a.defers = [] ∧ a.tmps.size = n ∧ ∀ i, a.tmps.getD i undef = f i

theorem upd_at (f : Nat → Value) (d : Nat) (v : Value) : upd f d v d = v := by unfold upd; rw [Nat.beq_refl]; rfl
theorem upd_ne (f : Nat → Value) {d i : Nat} (v : Value) (h : i ≠ d) : upd f d v i = f i := by
  unfold upd
  cases e : Nat.beq i d
  · rfl
  · exact absurd (Nat.eq_of_beq_eq_true e) h
theorem Is.eval {a : Act} {n : Nat} {f : Nat → Value} (h : Is a n f) : a.eval = env f := by
  funext x
  cases x with
  | tmp t => exact h.2.2 t
  | _ => rfl
theorem Is.put {a : Act} {n : Nat} {f : Nat → Value} (h : Is a n f) {d : Nat} (hd : d < n) (v : Value) : Is (a.put (some d) v) n (upd f d v) := by
  refine ⟨h.1, by simpa [Act.put] using h.2.1, fun i => ?_⟩
  by_cases e : i = d
  · subst e
    have := h.2.1
    rw [upd_at]
    simp [Act.put, show i < a.tmps.size by omega]
  · rw [upd_ne _ _ e, ← h.2.2 i]
    simp [Act.put, Array.getElem?_setIfInBounds_ne (Ne.symm e)]
theorem Is.start (tmps : Array Value) {n : Nat} (hn : tmps.size = n) : Is ⟨tmps, []⟩ n fun i => tmps.getD i undef := ⟨rfl, hn, fun _ => rfl⟩
theorem Is.pin {a : Act} {n : Nat} {f : Nat → Value} (h : Is a n f) (d : Nat) {v : Value} (hv : f d = v) : Is a n (upd f d v) := by
  refine ⟨h.1, h.2.1, fun i => ?_⟩
  by_cases e : i = d
  · subst e; rw [upd_at, h.2.2, hv]
  · rw [upd_ne _ _ e, h.2.2]
theorem Is.whole {a : Act} {n : Nat} {f : Nat → Value} (h : Is a n f) : a = ⟨((List.range n).map f).toArray, []⟩ := by
  obtain ⟨tmps, ds⟩ := a
  obtain ⟨h1, h2, h3⟩ := h
  simp only at h1 h2 h3
  subst h1
  congr 1
  refine Array.ext (by simp [h2]) fun i hi1 hi2 => ?_
  have := h3 i
  simp only [Array.getD_eq_getD_getElem?, Array.getElem?_eq_getElem hi1, Option.getD_some] at this
  simp [this]

/-- What a guard looks at. -/
def yieldE (ops : Array Oper) (f : Nat → Value) (j : Nat) : Option Bool := match (ops[j]?).bind (·.dst) with
  | some d => (match f d with
    | .bool b => some b
    | _ => none)
  | none => none
theorem Is.yields {a : Act} {n : Nat} {f : Nat → Value} (h : Is a n f) (ops : Array Oper) : yielded ops a.tmps = yieldE ops f := by
  funext j
  unfold yielded yieldE
  cases (ops[j]?).bind (·.dst) with
  | none => rfl
  | some d =>
    simp only [Option.bind_some]
    rw [← h.2.2 d]
    rw [Array.getD_eq_getD_getElem?]
    cases a.tmps[d]? with
    | none => rfl
    | some v => cases v <;> rfl

section
variable {P : Program} {ops : Array Oper} {s i n : Nat} {C : Bool → World → Prop} {Q : Act → Prop} {K : (Nat → Value) → Prop} {rest : List Oper} {a : Act} {f : Nat → Value} {d : Tmp} {ty : TypeId} {pos : String} {af : Array Edge} {gd : Option (Nat × Bool)} {x y : Operand} {op : Op} {o : Oper}

theorem flag_same (hs : Nat.beq i s = false) {b : Bool} {w : World} (h : C b w) : C (b || i == s) w := by
  have : (i == s) = false := beq_false_of_ne fun e => by subst e; rw [Nat.beq_refl] at hs; cases hs
  rw [this, Bool.or_false]; exact h

/-- One operation, what follows under a name. -/
def Yields (P : Program) (ops : Array Oper) (s : Nat) (C : Bool → World → Prop) (n i : Nat) (o : Oper) (f : Nat → Value) (K : (Nat → Value) → Prop) : Prop :=
  ∃ d v, o.dst = some d ∧ d < n ∧ ((Region.wanted o (yieldE ops f) = true ∧ ∀ b w, (i = s → b = false) → C b w → Fans P (C (b || i == s)) w v ((execOp (env f) o).run P w)) ∨ (Region.wanted o (yieldE ops f) = false ∧ v = undef ∧ i ≠ s)) ∧ K (upd f d v)
/-- The walk, over frames as functions. -/
def WalksE (P : Program) (ops : Array Oper) (s : Nat) (C : Bool → World → Prop) (n : Nat) (Q : Act → Prop) : Nat → List Oper → (Nat → Value) → Prop
  | _, [], f => ∀ a, Is a n f → Q a
  | i, o :: rest, f => Yields P ops s C n i o f (WalksE P ops s C n Q (i + 1) rest)

theorem WalksE.sound : ∀ (l : List Oper) (i : Nat) (f : Nat → Value) (a : Act), WalksE P ops s C n Q i l f → Is a n f → Walks P ops s C Q i l a
  | [], _, _, a, h, ha => h a ha
  | o :: l, i, f, a, h, ha => by
    obtain ⟨d, v, hd, hn, hv, hk⟩ := h
    refine ⟨v, ?_, ?_⟩
    · unfold Fan; rw [ha.eval, ha.yields]; exact hv
    · rw [hd]; exact WalksE.sound l (i + 1) _ _ hk (ha.put hn v)

theorem walks_one (h : ∀ K : (Nat → Value) → Prop, (∀ f, WalksE P ops s C n Q (i + 1) rest f → K f) → Yields P ops s C n i o f K) : WalksE P ops s C n Q i (o :: rest) f := h _ (fun _ h => h)
theorem walks_with (h : ∀ K : Act → Prop, (∀ a, Q a → K a) → WalksE P ops s C n K i rest f) : WalksE P ops s C n Q i rest f := h _ (fun _ h => h)
theorem walks_end (h : ∀ a, Is a n f → Q a) : WalksE P ops s C n Q i [] f := h

/-- An operation that yields a value in whatever world. -/
theorem st_pure {v : Value} (hs : Nat.beq i s = false) (hd : Nat.blt d n = true) (h : ∀ w, (execOp (env f) { dst := some d, op := op, type := ty, pos := pos, after := af, guard := gd }).run P w = .ok (.value v) w) (k : K (upd f d v))
    (hw : Region.wanted { dst := some d, op := op, type := ty, pos := pos, after := af, guard := gd } (yieldE ops f) = true := by exact rfl) : Yields P ops s C n i { dst := some d, op := op, type := ty, pos := pos, after := af, guard := gd } f K :=
  ⟨d, v, rfl, by simpa using hd, .inl ⟨hw, fun b w _ hC => by rw [h w]; exact ⟨flag_same hs hC, rfl⟩⟩, k⟩
/-- An operation whose guard says no. -/
theorem st_skip (hs : Nat.beq i s = false) (hd : Nat.blt d n = true) (hw : Region.wanted { dst := some d, op := op, type := ty, pos := pos, after := af, guard := gd } (yieldE ops f) = false) (k : K (upd f d undef)) : Yields P ops s C n i { dst := some d, op := op, type := ty, pos := pos, after := af, guard := gd } f K :=
  ⟨d, undef, rfl, by simpa using hd, .inr ⟨hw, rfl, fun e => by subst e; rw [Nat.beq_refl] at hs; cases hs⟩, k⟩

theorem run_load_int {ρ : Operand → Value} {w : World} {B j : Nat} {z : Int} {dst : Option Tmp} (hx : ρ x = .pointer (some ⟨B, j, none⟩)) (hc : w.cell? ⟨B, j, none⟩ = some (.int .i64 z)) :
    (execOp ρ { dst := dst, op := .load 3 x, type := ty, pos := pos, after := af, guard := gd }).run Try.prog w = .ok (.value (.int .i64 z)) w := by
  go_simp
theorem run_call27 {ρ : Operand → Value} {w : World} {ts : Array TypeId} {dst : Option Tmp} (hf : ρ (.func 37) = .func (.func 37) #[] #[]) :
    (execOp ρ { dst := dst, op := .call { callee := .value (.func 37), args := #[x, y], argTypes := ts }, type := ty, pos := pos, after := af, guard := gd }).run Try.prog w = .ok (.enter 37 #[ρ x, ρ y]) w := by
  go_simp
theorem run_call31 {ρ : Operand → Value} {w : World} {ts : Array TypeId} {dst : Option Tmp} (hf : ρ (.func 55) = .func (.func 55) #[] #[]) :
    (execOp ρ { dst := dst, op := .call { callee := .value (.func 55), args := #[x, y], argTypes := ts }, type := ty, pos := pos, after := af, guard := gd }).run Try.prog w = .ok (.enter 55 #[ρ x, ρ y]) w := by
  go_simp
theorem st_load {B j : Nat} {z : Int} {c : Array Value} {t : TypeId} (hV : ∀ b w, C b w → Var w B c t) (hs : Nat.beq i s = false) (hd : Nat.blt d n = true) (hx : env f x = .pointer (some ⟨B, j, none⟩)) (hz : c[j]? = some (.int .i64 z)) (k : K (upd f d (.int .i64 z)))
    (hw : Region.wanted { dst := some d, op := .load 3 x, type := ty, pos := pos, after := af, guard := gd } (yieldE ops f) = true := by exact rfl) :
    Yields Try.prog ops s C n i { dst := some d, op := .load 3 x, type := ty, pos := pos, after := af, guard := gd } f K :=
  ⟨d, .int .i64 z, rfl, by simpa using hd, .inl ⟨hw, fun b w _ hC => by rw [run_load_int hx (((hV b w hC).cell j).trans hz)]; exact ⟨flag_same hs hC, rfl⟩⟩, k⟩

theorem run_build6 {ρ : Operand → Value} {w : World} {dst : Option Tmp} {x0 x1 x2 x3 x4 x5 : Operand} {a0 a1 a2 a3 a4 a5 : Int} (h0 : ρ x0 = .int .i64 a0) (h1 : ρ x1 = .int .i64 a1) (h2 : ρ x2 = .int .i64 a2) (h3 : ρ x3 = .int .i64 a3) (h4 : ρ x4 = .int .i64 a4) (h5 : ρ x5 = .int .i64 a5) :
    (execOp ρ { dst := dst, op := .build 48 #[(0, x0), (1, x1), (2, x2), (3, x3), (4, x4), (5, x5)], type := ty, pos := pos, after := af, guard := gd }).run Try.prog w = .ok (.value (mx a0 a1 a2 a3 a4 a5)) w := by
  go_simp
theorem run_build2 {ρ : Operand → Value} {w : World} {dst : Option Tmp} {x0 x1 : Operand} {a0 a1 : Int} (h0 : ρ x0 = .int .i64 a0) (h1 : ρ x1 = .int .i64 a1) :
    (execOp ρ { dst := dst, op := .build 23 #[(0, x0), (1, x1)], type := ty, pos := pos, after := af, guard := gd }).run Try.prog w = .ok (.value (pt a0 a1)) w := by
  go_simp
theorem run_alloc23 {ρ : Operand → Value} {w : World} {dst : Option Tmp} :
    (execOp ρ { dst := dst, op := .alloc 48, type := ty, pos := pos, after := af, guard := gd }).run Try.prog w = .ok (.value (.pointer (some ⟨w.heap.size, 0, none⟩))) (w.alloc (.cells #[.int .i64 0, .int .i64 0, .int .i64 0, .int .i64 0, .int .i64 0, .int .i64 0] 48)) := by
  go_simp
theorem run_alloc25 {ρ : Operand → Value} {w : World} {dst : Option Tmp} :
    (execOp ρ { dst := dst, op := .alloc 23, type := ty, pos := pos, after := af, guard := gd }).run Try.prog w = .ok (.value (.pointer (some ⟨w.heap.size, 0, none⟩))) (w.alloc (.cells #[.int .i64 0, .int .i64 0] 23)) := by
  go_simp

/-- A call by its contract. -/
theorem st_call {g : FuncId} {args : Array Value} {r : Value} (hs : Nat.beq i s = false) (hd : Nat.blt d n = true) (hrun : ∀ w, (execOp (env f) { dst := some d, op := op, type := ty, pos := pos, after := af, guard := gd }).run P w = .ok (.enter g args) w)
    (hc : ∀ b w, C b w → Calls P g args w fun e w' => e = .returned r ∧ C b w') (k : K (upd f d r))
    (hw : Region.wanted { dst := some d, op := op, type := ty, pos := pos, after := af, guard := gd } (yieldE ops f) = true := by exact rfl) : Yields P ops s C n i { dst := some d, op := op, type := ty, pos := pos, after := af, guard := gd } f K :=
  ⟨d, r, rfl, by simpa using hd, .inl ⟨hw, fun b w _ hC => by rw [hrun w]; exact ⟨rfl, (hc b w hC).mono fun e w' h => ⟨h.1, flag_same hs h.2⟩⟩⟩, k⟩
end

theorem ret6n_is {fn : Func} {p u : Tmp} {R : Ending → World → Prop} {a : Act} {n : Nat} {f : Nat → Value} {w : World} {B : Nat} {a0 a1 a2 a3 a4 a5 r : Int} (ha : Is a n f) (h : fn.results = #[.cell p 48, .tmp u]) (hp : f p = .pointer (some ⟨B, 0, none⟩))
    (hu : f u = .int .i64 r) (hV : Var w B #[.int .i64 a0, .int .i64 a1, .int .i64 a2, .int .i64 a3, .int .i64 a4, .int .i64 a5] 48) (hR : R (.returned (.tuple #[mx a0 a1 a2 a3 a4 a5, .int .i64 r])) w) : bodyPost Try.prog fn R .ret a w := by
  obtain ⟨tmps, ds⟩ := a
  obtain ⟨h1, _, h3⟩ := ha
  simp only at h1 h3
  subst h1
  exact ret6n h ((h3 p).trans hp) ((h3 u).trans hu) hV hR

/-- The worlds that leave the blocks below alone. -/
def Over (W : World) (b : Bool) (w : World) : Prop := Below W.heap.size W w
theorem Over.start (W : World) : Over W false W.drew := (Below.refl _ W).drew
theorem Over.var {W : World} {b : Bool} {w : World} {n : Nat} {c : Array Value} {t : TypeId} (hV : Var W n c t) (h : Over W b w) : Var w n c t := hV.next h
theorem Over.drawn {W : World} {b : Bool} {w w' : World} (h : Over W b w) (k : Drawn w w') : Over W b w' := by
  obtain ⟨n, rfl⟩ := k
  exact below_drewN h n
theorem Over.next {W : World} {b : Bool} {w w' : World} (h : Over W b w) (k : Below w.heap.size w w') : Over W b w' := below_next h k

theorem wrap_id {z : Int} (h : -9223372036854775808 ≤ z ∧ z ≤ 9223372036854775807) : IntKind.i64.wrap z = z := by rw [IntKind.wrap_i64]; omega

theorem mulb {x y X Y : Int} (hx : -X ≤ x ∧ x ≤ X) (hy : -Y ≤ y ∧ y ≤ Y) : -(X * Y) ≤ x * y ∧ x * y ≤ X * Y := by
  have h1 := Int.mul_nonneg (show 0 ≤ X - x by omega) (show 0 ≤ Y + y by omega)
  have h2 := Int.mul_nonneg (show 0 ≤ X + x by omega) (show 0 ≤ Y - y by omega)
  have h3 := Int.mul_nonneg (show 0 ≤ X - x by omega) (show 0 ≤ Y - y by omega)
  have h4 := Int.mul_nonneg (show 0 ≤ X + x by omega) (show 0 ≤ Y + y by omega)
  rw [Int.sub_mul, Int.mul_add, Int.mul_add] at h1
  rw [Int.add_mul, Int.mul_sub, Int.mul_sub] at h2
  rw [Int.sub_mul, Int.mul_sub, Int.mul_sub] at h3
  rw [Int.add_mul, Int.mul_add, Int.mul_add] at h4
  omega

/-- A number that no sum of few such leaves the ints. -/
def Sm (z : Int) : Prop := -281474976710656 ≤ z ∧ z ≤ 281474976710656
theorem lin2 {p q : Int} (hp : Sm p) (hq : Sm q) : IntKind.i64.wrap (IntKind.i64.wrap p + IntKind.i64.wrap q) = p + q := by
  unfold Sm at hp hq
  rw [wrap_id (z := p) (by omega), wrap_id (z := q) (by omega), wrap_id (by omega)]
theorem lin3 {p q r : Int} (hp : Sm p) (hq : Sm q) (hr : Sm r) : IntKind.i64.wrap (IntKind.i64.wrap (IntKind.i64.wrap p + IntKind.i64.wrap q) + r) = p + q + r := by
  rw [lin2 hp hq]
  unfold Sm at hp hq hr
  rw [wrap_id (by omega)]
theorem rnd_b {X : Int} (h : -1125899906842624 ≤ X ∧ X ≤ 1125899906842624) : -274877906945 ≤ rnd X 4096 ∧ rnd X 4096 ≤ 274877906945 := by
  unfold rnd; omega
theorem rnd_add {X z : Int} (hX : -1125899906842624 ≤ X ∧ X ≤ 1125899906842624) (hz : Sm z) : IntKind.i64.wrap (rnd X 4096 + z) = rnd X 4096 + z := by
  have := rnd_b hX
  unfold Sm at hz
  rw [wrap_id (by omega)]

/-! ### The tails -/
theorem run_store6 {ρ : Operand → Value} {w : World} {B : Nat} {p q : Operand} {ty : TypeId} {pos : String} {af : Array Edge} {gd : Option (Nat × Bool)} {dst : Option Tmp} {a0 a1 a2 a3 a4 a5 : Int}
    (hp : ρ p = .pointer (some ⟨B, 0, none⟩)) (hq : ρ q = mx a0 a1 a2 a3 a4 a5) (hV : Var w B #[.int .i64 0, .int .i64 0, .int .i64 0, .int .i64 0, .int .i64 0, .int .i64 0] 48) :
    (execOp ρ { dst := dst, op := .store 48 p q, type := ty, pos := pos, after := af, guard := gd }).run Try.prog w =
      .ok .skip ((((((w.setCell ⟨B, 0, none⟩ (.int .i64 a0)).setCell ⟨B, 1, none⟩ (.int .i64 a1)).setCell ⟨B, 2, none⟩ (.int .i64 a2)).setCell ⟨B, 3, none⟩ (.int .i64 a3)).setCell ⟨B, 4, none⟩ (.int .i64 a4)).setCell ⟨B, 5, none⟩ (.int .i64 a5)) := by
  obtain ⟨q0, q1, q2, q3, q4, q5, qf⟩ := hV.read6
  go_simp
theorem run_store2 {ρ : Operand → Value} {w : World} {B : Nat} {p q : Operand} {ty : TypeId} {pos : String} {af : Array Edge} {gd : Option (Nat × Bool)} {dst : Option Tmp} {a0 a1 : Int}
    (hp : ρ p = .pointer (some ⟨B, 0, none⟩)) (hq : ρ q = pt a0 a1) (hV : Var w B #[.int .i64 0, .int .i64 0] 23) :
    (execOp ρ { dst := dst, op := .store 23 p q, type := ty, pos := pos, after := af, guard := gd }).run Try.prog w = .ok .skip ((w.setCell ⟨B, 0, none⟩ (.int .i64 a0)).setCell ⟨B, 1, none⟩ (.int .i64 a1)) := by
  obtain ⟨q0, q1, qf⟩ := hV.read2
  go_simp

/-- One operation of a forced list, that has run to its end. -/
theorem wpList_skip {P : Program} {ops : Array Oper} {R : Exit → Act → World → Prop} {a : Act} {w w' : World} {o : Oper} {rest : List Oper} (hg : o.guard = none) (hd : o.dst = none) (hr : (execOp a.eval o).run P w = .ok .skip w') (h : wpList P ops R rest a w') : wpList P ops R (o :: rest) a w := by
  refine wpList_step fun K hK => ?_
  have : Region.wanted o (yielded ops a.tmps) = true := by unfold Region.wanted; rw [hg]
  rw [if_pos this]
  unfold Oper.wp
  rw [hr]
  have : a.put o.dst undef = a := by rw [hd]; rfl
  simp only [Oper.upon, this]
  exact hK _ _ h
theorem wpList_value {P : Program} {ops : Array Oper} {R : Exit → Act → World → Prop} {a : Act} {w : World} {o : Oper} {v : Value} {rest : List Oper} (hg : o.guard = none) (hr : (execOp a.eval o).run P w = .ok (.value v) w) (h : wpList P ops R rest (a.put o.dst v) w) : wpList P ops R (o :: rest) a w := by
  refine wpList_step fun K hK => ?_
  have : Region.wanted o (yielded ops a.tmps) = true := by unfold Region.wanted; rw [hg]
  rw [if_pos this]
  unfold Oper.wp
  rw [hr]
  simp only [Oper.upon]
  exact hK _ _ h

theorem tail6 {ops : Array Oper} {R : Exit → Act → World → Prop} {a : Act} {w : World} {B : Nat} {p q x : Operand} {u : Tmp} {ty ty' : TypeId} {pos pos' : String} {af af' : Array Edge} {a0 a1 a2 a3 a4 a5 : Int}
    (hp : a.eval p = .pointer (some ⟨B, 0, none⟩)) (hq : a.eval q = mx a0 a1 a2 a3 a4 a5) (hV : Var w B #[.int .i64 0, .int .i64 0, .int .i64 0, .int .i64 0, .int .i64 0, .int .i64 0] 48)
    (h : R .normal (a.put (some u) (a.eval x)) ((((((w.setCell ⟨B, 0, none⟩ (.int .i64 a0)).setCell ⟨B, 1, none⟩ (.int .i64 a1)).setCell ⟨B, 2, none⟩ (.int .i64 a2)).setCell ⟨B, 3, none⟩ (.int .i64 a3)).setCell ⟨B, 4, none⟩ (.int .i64 a4)).setCell ⟨B, 5, none⟩ (.int .i64 a5))) :
    wpList Try.prog ops R [{ dst := none, op := .store 48 p q, type := ty, pos := pos, after := af, guard := none }, { dst := some u, op := .assign x, type := ty', pos := pos', after := af', guard := none }] a w :=
  wpList_skip rfl rfl (run_store6 hp hq hV) (wpList_value rfl rfl h)

theorem round_over {W : World} {u : Value} {X' : Int} {b : Bool} {w : World} {p q : Int} (h : Over W b w) (hu : u = .int .i64 X') (hp : Sm p) (hq : Sm q) (hX : X' = IntKind.i64.wrap (IntKind.i64.wrap p + IntKind.i64.wrap q)) :
    Calls Try.prog 37 #[u, .int .i64 4096] w fun e w' => e = .returned (.int .i64 (rnd (p + q) 4096)) ∧ Over W b w' := by
  subst hu hX
  rw [lin2 hp hq]
  unfold Sm at hp hq
  exact (round_any _ _ w (by omega) (by omega) (by omega) (by omega)).mono fun e w' ⟨he, hd⟩ => ⟨he, h.drawn hd⟩

/-- The rounded quotient by a number of either sign. -/
def qt (a b : Int) : Int := if b < 0 then rnd (-a) (-b) else rnd a b
theorem dif2 {p q : Int} (hp : Sm p) (hq : Sm q) : IntKind.i64.wrap (4096 * IntKind.i64.wrap (IntKind.i64.wrap p - IntKind.i64.wrap q)) = 4096 * (p - q) ∧ (-2305843009213693952 ≤ 4096 * (p - q) ∧ 4096 * (p - q) ≤ 2305843009213693952) := by
  unfold Sm at hp hq
  rw [wrap_id (z := p) (by omega), wrap_id (z := q) (by omega), wrap_id (z := p - q) (by omega), wrap_id (by omega)]
  omega

end Go.Proofs.Ytcdedefhofkbhaa.Af
