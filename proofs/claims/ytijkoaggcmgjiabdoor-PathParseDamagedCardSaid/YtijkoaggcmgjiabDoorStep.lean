/- The steps of a walk through a region that draws its order. -/
import Derived.Test.YtijkoaggcmgjiabDoorLeaf
import Derived.Test.YtijkoaggcmgjiabDoorFan
import Derived.Shelf.Abstract
import Derived.Deep.Cut
namespace Go.Proofs.YtijkoaggcmgjiabDoor
open Go Go.RowKit
set_option linter.unusedVariables false

/-! ### Frames as functions: a slot's value is found by looking at the last writes -/
def upd (f : Nat → Value) (d : Nat) (v : Value) : Nat → Value := fun i => bif Nat.beq i d then v else f i
def env (f : Nat → Value) : Operand → Value
  | .tmp t => f t
  | .const v => v
  | .global g => .pointer (some ⟨g, 0, none⟩)
  | .func g => .func (.func g) #[] #[]
/-- The frame a has n slots, and they hold f. -/
def Is (a : Act) (n : Nat) (f : Nat → Value) : Prop := a.defers = [] ∧ a.tmps.size = n ∧ ∀ i, a.tmps.getD i undef = f i

theorem upd_at (f : Nat → Value) (d : Nat) (v : Value) : upd f d v d = v := by unfold upd; rw [Nat.beq_refl]; rfl
theorem upd_ne (f : Nat → Value) {d i : Nat} (v : Value) (h : i ≠ d) : upd f d v i = f i := by
  unfold upd
  cases e : Nat.beq i d
  · rfl
  · exact absurd (Nat.eq_of_beq_eq_true e) h
theorem Is.eval {a : Act} {n : Nat} {f : Nat → Value} (h : Is a n f) : a.eval = env f := by
  funext x
  cases x with
  | tmp t => exact h.2.2 t
  | _ => rfl
theorem Is.put {a : Act} {n : Nat} {f : Nat → Value} (h : Is a n f) {d : Nat} (hd : d < n) (v : Value) : Is (a.put (some d) v) n (upd f d v) := by
  refine ⟨h.1, by simpa [Act.put] using h.2.1, fun i => ?_⟩
  by_cases e : i = d
  · subst e
    have := h.2.1
    rw [upd_at]
    simp [Act.put, show i < a.tmps.size by omega]
  · rw [upd_ne _ _ e, ← h.2.2 i]
    simp [Act.put, Array.getElem?_setIfInBounds_ne (Ne.symm e)]
theorem Is.start (tmps : Array Value) {n : Nat} (hn : tmps.size = n) : Is ⟨tmps, []⟩ n fun i => tmps.getD i undef := ⟨rfl, hn, fun _ => rfl⟩
theorem Is.pin {a : Act} {n : Nat} {f : Nat → Value} (h : Is a n f) (d : Nat) {v : Value} (hv : f d = v) : Is a n (upd f d v) := by
  refine ⟨h.1, h.2.1, fun i => ?_⟩
  by_cases e : i = d
  · subst e; rw [upd_at, h.2.2, hv]
  · rw [upd_ne _ _ e, h.2.2]
theorem Is.whole {a : Act} {n : Nat} {f : Nat → Value} (h : Is a n f) : a = ⟨((List.range n).map f).toArray, []⟩ := by
  obtain ⟨tmps, ds⟩ := a
  obtain ⟨h1, h2, h3⟩ := h
  simp only at h1 h2 h3
  subst h1
  congr 1
  refine Array.ext (by simp [h2]) fun i hi1 hi2 => ?_
  have := h3 i
  simp only [Array.getD_eq_getD_getElem?, Array.getElem?_eq_getElem hi1, Option.getD_some] at this
  simp [this]

/-- What a guard looks at. -/
def yieldE (ops : Array Oper) (f : Nat → Value) (j : Nat) : Option Bool := match (ops[j]?).bind (·.dst) with
  | some d => (match f d with
    | .bool b => some b
    | _ => none)
  | none => none
theorem Is.yields {a : Act} {n : Nat} {f : Nat → Value} (h : Is a n f) (ops : Array Oper) : yielded ops a.tmps = yieldE ops f := by
  funext j
  unfold yielded yieldE
  cases (ops[j]?).bind (·.dst) with
  | none => rfl
  | some d =>
    simp only [Option.bind_some]
    rw [← h.2.2 d]
    rw [Array.getD_eq_getD_getElem?]
    cases a.tmps[d]? with
    | none => rfl
    | some v => cases v <;> rfl

section
variable {P : Program} {ops : Array Oper} {s i n : Nat} {C : Bool → World → Prop} {Q : Act → Prop} {K : (Nat → Value) → Prop} {rest : List Oper} {a : Act} {f : Nat → Value} {d : Tmp} {ty : TypeId} {pos : String} {af : Array Edge} {gd : Option (Nat × Bool)} {x y : Operand} {op : Op} {o : Oper}

theorem flag_same (hs : Nat.beq i s = false) {b : Bool} {w : World} (h : C b w) : C (b || i == s) w := by
  have : (i == s) = false := beq_false_of_ne fun e => by subst e; rw [Nat.beq_refl] at hs; cases hs
  rw [this, Bool.or_false]; exact h

/-- One operation, what follows under a name. -/
def Yields (P : Program) (ops : Array Oper) (s : Nat) (C : Bool → World → Prop) (n i : Nat) (o : Oper) (f : Nat → Value) (K : (Nat → Value) → Prop) : Prop :=
  ∃ d v, o.dst = some d ∧ d < n ∧ ((Region.wanted o (yieldE ops f) = true ∧ ∀ b w, (i = s → b = false) → C b w → Fans P (C (b || i == s)) w v ((execOp (env f) o).run P w)) ∨ (Region.wanted o (yieldE ops f) = false ∧ v = undef ∧ i ≠ s)) ∧ K (upd f d v)
/-- The walk, over frames as functions. -/
def WalksE (P : Program) (ops : Array Oper) (s : Nat) (C : Bool → World → Prop) (n : Nat) (Q : Act → Prop) : Nat → List Oper → (Nat → Value) → Prop
  | _, [], f => ∀ a, Is a n f → Q a
  | i, o :: rest, f => Yields P ops s C n i o f (WalksE P ops s C n Q (i + 1) rest)

theorem WalksE.sound : ∀ (l : List Oper) (i : Nat) (f : Nat → Value) (a : Act), WalksE P ops s C n Q i l f → Is a n f → Walks P ops s C Q i l a
  | [], _, _, a, h, ha => h a ha
  | o :: l, i, f, a, h, ha => by
    obtain ⟨d, v, hd, hn, hv, hk⟩ := h
    refine ⟨v, ?_, ?_⟩
    · unfold Fan; rw [ha.eval, ha.yields]; exact hv
    · rw [hd]; exact WalksE.sound l (i + 1) _ _ hk (ha.put hn v)

theorem walks_one (h : ∀ K : (Nat → Value) → Prop, (∀ f, WalksE P ops s C n Q (i + 1) rest f → K f) → Yields P ops s C n i o f K) : WalksE P ops s C n Q i (o :: rest) f := h _ (fun _ h => h)
theorem walks_with (h : ∀ K : Act → Prop, (∀ a, Q a → K a) → WalksE P ops s C n K i rest f) : WalksE P ops s C n Q i rest f := h _ (fun _ h => h)
theorem walks_end (h : ∀ a, Is a n f → Q a) : WalksE P ops s C n Q i [] f := h

/-- An operation that yields a value in whatever world. -/
theorem st_pure {v : Value} (hs : Nat.beq i s = false) (hd : Nat.blt d n = true) (h : ∀ w, (execOp (env f) { dst := some d, op := op, type := ty, pos := pos, after := af, guard := gd }).run P w = .ok (.value v) w) (k : K (upd f d v))
    (hw : Region.wanted { dst := some d, op := op, type := ty, pos := pos, after := af, guard := gd } (yieldE ops f) = true := by exact rfl) : Yields P ops s C n i { dst := some d, op := op, type := ty, pos := pos, after := af, guard := gd } f K :=
  ⟨d, v, rfl, by simpa using hd, .inl ⟨hw, fun b w _ hC => by rw [h w]; exact ⟨flag_same hs hC, rfl⟩⟩, k⟩
/-- An operation whose guard says no. -/
theorem st_skip (hs : Nat.beq i s = false) (hd : Nat.blt d n = true) (hw : Region.wanted { dst := some d, op := op, type := ty, pos := pos, after := af, guard := gd } (yieldE ops f) = false) (k : K (upd f d undef)) : Yields P ops s C n i { dst := some d, op := op, type := ty, pos := pos, after := af, guard := gd } f K :=
  ⟨d, undef, rfl, by simpa using hd, .inr ⟨hw, rfl, fun e => by subst e; rw [Nat.beq_refl] at hs; cases hs⟩, k⟩

theorem run_load_int {ρ : Operand → Value} {w : World} {B j : Nat} {z : Int} {dst : Option Tmp} (hx : ρ x = .pointer (some ⟨B, j, none⟩)) (hc : w.cell? ⟨B, j, none⟩ = some (.int .i64 z)) :
    (execOp ρ { dst := dst, op := .load 3 x, type := ty, pos := pos, after := af, guard := gd }).run Tryd.prog w = .ok (.value (.int .i64 z)) w := by
  go_simp

theorem st_load {B j : Nat} {z : Int} {c : Array Value} {t : TypeId} (hV : ∀ b w, C b w → Var w B c t) (hs : Nat.beq i s = false) (hd : Nat.blt d n = true) (hx : env f x = .pointer (some ⟨B, j, none⟩)) (hz : c[j]? = some (.int .i64 z)) (k : K (upd f d (.int .i64 z)))
    (hw : Region.wanted { dst := some d, op := .load 3 x, type := ty, pos := pos, after := af, guard := gd } (yieldE ops f) = true := by exact rfl) :
    Yields Tryd.prog ops s C n i { dst := some d, op := .load 3 x, type := ty, pos := pos, after := af, guard := gd } f K :=
  ⟨d, .int .i64 z, rfl, by simpa using hd, .inl ⟨hw, fun b w _ hC => by rw [run_load_int hx (((hV b w hC).cell j).trans hz)]; exact ⟨flag_same hs hC, rfl⟩⟩, k⟩


/-- A call by its contract. -/
theorem st_call {g : FuncId} {args : Array Value} {r : Value} (hs : Nat.beq i s = false) (hd : Nat.blt d n = true) (hrun : ∀ w, (execOp (env f) { dst := some d, op := op, type := ty, pos := pos, after := af, guard := gd }).run P w = .ok (.enter g args) w)
    (hc : ∀ b w, C b w → Calls P g args w fun e w' => e = .returned r ∧ C b w') (k : K (upd f d r))
    (hw : Region.wanted { dst := some d, op := op, type := ty, pos := pos, after := af, guard := gd } (yieldE ops f) = true := by exact rfl) : Yields P ops s C n i { dst := some d, op := op, type := ty, pos := pos, after := af, guard := gd } f K :=
  ⟨d, r, rfl, by simpa using hd, .inl ⟨hw, fun b w _ hC => by rw [hrun w]; exact ⟨rfl, (hc b w hC).mono fun e w' h => ⟨h.1, flag_same hs h.2⟩⟩⟩, k⟩
end

/-- The worlds that leave the blocks below alone. -/
def Over (W : World) (b : Bool) (w : World) : Prop := Below W.heap.size W w
theorem Over.start (W : World) : Over W false W.drew := (Below.refl _ W).drew
theorem Over.var {W : World} {b : Bool} {w : World} {n : Nat} {c : Array Value} {t : TypeId} (hV : Var W n c t) (h : Over W b w) : Var w n c t := hV.next h
theorem Over.next {W : World} {b : Bool} {w w' : World} (h : Over W b w) (k : Below w.heap.size w w') : Over W b w' := below_next h k


/-- One operation of a forced list, that has run to its end. -/
theorem wpList_skip {P : Program} {ops : Array Oper} {R : Exit → Act → World → Prop} {a : Act} {w w' : World} {o : Oper} {rest : List Oper} (hg : o.guard = none) (hd : o.dst = none) (hr : (execOp a.eval o).run P w = .ok .skip w') (h : wpList P ops R rest a w') : wpList P ops R (o :: rest) a w := by
  refine wpList_step fun K hK => ?_
  have : Region.wanted o (yielded ops a.tmps) = true := by unfold Region.wanted; rw [hg]
  rw [if_pos this]
  unfold Oper.wp
  rw [hr]
  have : a.put o.dst undef = a := by rw [hd]; rfl
  simp only [Oper.upon, this]
  exact hK _ _ h
theorem wpList_value {P : Program} {ops : Array Oper} {R : Exit → Act → World → Prop} {a : Act} {w : World} {o : Oper} {v : Value} {rest : List Oper} (hg : o.guard = none) (hr : (execOp a.eval o).run P w = .ok (.value v) w) (h : wpList P ops R rest (a.put o.dst v) w) : wpList P ops R (o :: rest) a w := by
  refine wpList_step fun K hK => ?_
  have : Region.wanted o (yielded ops a.tmps) = true := by unfold Region.wanted; rw [hg]
  rw [if_pos this]
  unfold Oper.wp
  rw [hr]
  simp only [Oper.upon]
  exact hK _ _ h


/-- The last operation of a region, that yields a value. -/
theorem tailV {P : Program} {ops : Array Oper} {R : Exit → Act → World → Prop} {a : Act} {w : World} {o : Oper} {u : Tmp} {v : Value} (hg : o.guard = none) (hd : o.dst = some u) (hr : (execOp a.eval o).run P w = .ok (.value v) w) (h : R .normal (a.put (some u) v) w) :
    wpList P ops R [o] a w := wpList_value hg hr (by rw [hd]; exact h)
/-- The last write of a region, of a slot. -/
theorem tailB {P : Program} {ops : Array Oper} {R : Exit → Act → World → Prop} {a : Act} {w : World} {x : Operand} {u : Tmp} {ty : TypeId} {pos : String} {af : Array Edge} (h : R .normal (a.put (some u) (a.eval x)) w) :
    wpList P ops R [{ dst := some u, op := .assign x, type := ty, pos := pos, after := af, guard := none }] a w := wpList_value rfl rfl h

section
variable {ρ : Operand → Value} {dst : Option Tmp} {ty : TypeId} {pos : String} {af : Array Edge} {x y : Operand} {w : World} {gd : Option (Nat × Bool)}
theorem run_loadSeg {a : Addr} {s : Sg} (hx : ρ x = .pointer (some a)) (hV : SegAt w a s) :
    (execOp ρ { dst := dst, op := .load 38 x, type := ty, pos := pos, after := af, guard := gd }).run Tryd.prog w = .ok (.value (seg s)) w := by
  obtain ⟨c0, c1, c2, c3, c4, c5⟩ := hV
  go_simp
theorem run_loadFld {a : Addr} {z : Int} (hx : ρ x = .pointer (some a)) (hV : w.cell? a = some (.int .i64 z)) :
    (execOp ρ { dst := dst, op := .load 3 x, type := ty, pos := pos, after := af, guard := gd }).run Tryd.prog w = .ok (.value (.int .i64 z)) w := by
  go_simp
theorem run_neSeg {s t : Sg} (hx : ρ x = seg s) (hy : ρ y = seg t) :
    (execOp ρ { dst := dst, op := .binOp .neq 38 x y 38, type := ty, pos := pos, after := af, guard := gd }).run Tryd.prog w = .ok (.value (.bool (decide (s ≠ t)))) w := by
  by_cases e : s = t
  · subst e
    rw [show decide (s ≠ s) = false by simp]
    go_simp
  · have e' : decide (s ≠ t) = true := by simp [e]
    rw [e']
    by_cases k0 : s.k = t.k
    case neg => go_simp
    by_cases k1 : s.x = t.x
    case neg => go_simp
    by_cases k2 : s.y = t.y
    case neg => go_simp
    by_cases k3 : s.u = t.u
    case neg => go_simp
    by_cases k4 : s.v = t.v
    case neg => go_simp
    by_cases k5 : s.w = t.w
    case neg => go_simp
    exact absurd (Sg.ext' ⟨k0, k1, k2, k3, k4, k5⟩) e
theorem run_eqSeg {s t : Sg} (hx : ρ x = seg s) (hy : ρ y = seg t) :
    (execOp ρ { dst := dst, op := .binOp .eql 38 x y 38, type := ty, pos := pos, after := af, guard := gd }).run Tryd.prog w = .ok (.value (.bool (decide (s = t)))) w := by
  by_cases e : s = t
  · subst e
    rw [show decide (s = s) = true by simp]
    go_simp
  · have e' : decide (s = t) = false := by simp [e]
    rw [e']
    by_cases k0 : s.k = t.k
    case neg => go_simp
    by_cases k1 : s.x = t.x
    case neg => go_simp
    by_cases k2 : s.y = t.y
    case neg => go_simp
    by_cases k3 : s.u = t.u
    case neg => go_simp
    by_cases k4 : s.v = t.v
    case neg => go_simp
    by_cases k5 : s.w = t.w
    case neg => go_simp
    exact absurd (Sg.ext' ⟨k0, k1, k2, k3, k4, k5⟩) e
theorem run_call1 {P : Program} {g : FuncId} {ts : Array TypeId} (hf : ρ (.func g) = .func (.func g) #[] #[]) (he : Enters P g) :
    (execOp ρ { dst := dst, op := .call { callee := .value (.func g), args := #[x], argTypes := ts }, type := ty, pos := pos, after := af, guard := gd }).run P w = .ok (.enter g #[ρ x]) w := by
  have e : ∀ args w, (callFunc g args).run P w = .ok (.enter g args) w := he
  go_simp
theorem run_call2 {P : Program} {g : FuncId} {ts : Array TypeId} (hf : ρ (.func g) = .func (.func g) #[] #[]) (he : Enters P g) :
    (execOp ρ { dst := dst, op := .call { callee := .value (.func g), args := #[x, y], argTypes := ts }, type := ty, pos := pos, after := af, guard := gd }).run P w = .ok (.enter g #[ρ x, ρ y]) w := by
  have e : ∀ args w, (callFunc g args).run P w = .ok (.enter g args) w := he
  go_simp
end
section
variable {ops : Array Oper} {s i n : Nat} {C : Bool → World → Prop} {K : (Nat → Value) → Prop} {f : Nat → Value} {d : Tmp} {ty : TypeId} {pos : String} {af : Array Edge} {gd : Option (Nat × Bool)} {x y : Operand}
theorem st_loadSeg {a : Addr} {g : Sg} (hV : ∀ b w, C b w → SegAt w a g) (hs : Nat.beq i s = false) (hd : Nat.blt d n = true) (hx : env f x = .pointer (some a)) (k : K (upd f d (seg g)))
    (hw : Region.wanted { dst := some d, op := .load 38 x, type := ty, pos := pos, after := af, guard := gd } (yieldE ops f) = true := by exact rfl) :
    Yields Tryd.prog ops s C n i { dst := some d, op := .load 38 x, type := ty, pos := pos, after := af, guard := gd } f K :=
  ⟨d, _, rfl, by simpa using hd, .inl ⟨hw, fun b w _ hC => by rw [run_loadSeg hx (hV b w hC)]; exact ⟨flag_same hs hC, rfl⟩⟩, k⟩
theorem st_loadFld {a : Addr} {z : Int} (hV : ∀ b w, C b w → w.cell? a = some (.int .i64 z)) (hs : Nat.beq i s = false) (hd : Nat.blt d n = true) (hx : env f x = .pointer (some a)) (k : K (upd f d (.int .i64 z)))
    (hw : Region.wanted { dst := some d, op := .load 3 x, type := ty, pos := pos, after := af, guard := gd } (yieldE ops f) = true := by exact rfl) :
    Yields Tryd.prog ops s C n i { dst := some d, op := .load 3 x, type := ty, pos := pos, after := af, guard := gd } f K :=
  ⟨d, _, rfl, by simpa using hd, .inl ⟨hw, fun b w _ hC => by rw [run_loadFld hx (hV b w hC)]; exact ⟨flag_same hs hC, rfl⟩⟩, k⟩
end
theorem Over.seg {W : World} {b : Bool} {w : World} {a : Addr} {s : Sg} (hV : SegAt W a s) (hl : a.block < W.heap.size) (h : Over W b w) : SegAt w a s := hV.below h hl
theorem Var.segAt {w : World} {b : Nat} {s : Sg} {t : TypeId} (h : Var w b (cel s) t) : SegAt w ⟨b, 0, none⟩ s :=
  ⟨h.cell 0, (h.cell (0 + 1)), (h.cell (0 + 2)), (h.cell (0 + 3)), (h.cell (0 + 4)), (h.cell (0 + 5))⟩

end Go.Proofs.YtijkoaggcmgjiabDoor
