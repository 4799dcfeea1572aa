/- One operation of a region's walk (FanB): reads, calls, and those that change the memory. -/
import Derived.Test.YtijkoaggcmgjiabDoorFanB
import Derived.Test.YtijkoaggcmgjiabDoorRCheck
import Derived.Test.YtijkoaggcmgjiabDoorSlc
namespace Go.Proofs.YtijkoaggcmgjiabDoor.F2
open Go Go.RowKit
set_option linter.unusedVariables false

section
variable {P : Program} {ops : Array Oper} {s : List Nat} {i n : Nat} {C : Nat → World → Prop} {Q : Act → Prop} {K : (Nat → Value) → Prop} {rest : List Oper} {a : Act} {f : Nat → Value} {d : Tmp} {ty : TypeId} {pos : String} {af : Array Edge} {gd : Option (Nat × Bool)} {x y : Operand} {op : Op} {o : Oper}

def Yields (P : Program) (ops : Array Oper) (s : List Nat) (C : Nat → World → Prop) (n i : Nat) (o : Oper) (f : Nat → Value) (K : (Nat → Value) → Prop) : Prop :=
  ∃ v, ((Region.wanted o (yieldE ops f) = true ∧ ∀ b w, (i ∈ s → s[b]? = some i) → C b w → Fans P (C (step s i b)) w v ((execOp (env f) o).run P w)) ∨ (Region.wanted o (yieldE ops f) = false ∧ v = undef ∧ i ∉ s)) ∧
    match o.dst with
    | some d => d < n ∧ K (upd f d v)
    | none => K f
def WalksE (P : Program) (ops : Array Oper) (s : List Nat) (C : Nat → World → Prop) (n : Nat) (Q : Act → Prop) : Nat → List Oper → (Nat → Value) → Prop
  | _, [], f => ∀ a, Is a n f → Q a
  | i, o :: rest, f => Yields P ops s C n i o f (WalksE P ops s C n Q (i + 1) rest)

theorem WalksE.sound : ∀ (l : List Oper) (i : Nat) (f : Nat → Value) (a : Act), WalksE P ops s C n Q i l f → Is a n f → Walks P ops s C Q i l a
  | [], _, _, a, h, ha => h a ha
  | o :: l, i, f, a, h, ha => by
    obtain ⟨v, hv, hk⟩ := h
    refine ⟨v, ?_, ?_⟩
    · unfold Fan; rw [ha.eval, ha.yields]; exact hv
    · cases hd : o.dst with
      | none => rw [hd] at hk; exact WalksE.sound l (i + 1) _ _ hk ha
      | some d => rw [hd] at hk; exact WalksE.sound l (i + 1) _ _ hk.2 (ha.put hk.1 v)

theorem walks_one (h : ∀ K : (Nat → Value) → Prop, (∀ f, WalksE P ops s C n Q (i + 1) rest f → K f) → Yields P ops s C n i o f K) : WalksE P ops s C n Q i (o :: rest) f := h _ (fun _ h => h)
theorem walks_with (h : ∀ K : Act → Prop, (∀ a, Q a → K a) → WalksE P ops s C n K i rest f) : WalksE P ops s C n Q i rest f := h _ (fun _ h => h)
theorem walks_end (h : ∀ a, Is a n f → Q a) : WalksE P ops s C n Q i [] f := h

theorem not_in (hs : s.elem i = false) : i ∉ s := by simpa using hs
theorem st_pure {v : Value} (hs : s.elem i = false) (hd : Nat.blt d n = true) (h : ∀ w, (execOp (env f) { dst := some d, op := op, type := ty, pos := pos, after := af, guard := gd }).run P w = .ok (.value v) w) (k : K (upd f d v))
    (hw : Region.wanted { dst := some d, op := op, type := ty, pos := pos, after := af, guard := gd } (yieldE ops f) = true := by exact rfl) : Yields P ops s C n i { dst := some d, op := op, type := ty, pos := pos, after := af, guard := gd } f K :=
  ⟨v, .inl ⟨hw, fun b w _ hC => by rw [h w, step, if_neg (not_in hs)]; exact ⟨hC, rfl⟩⟩, by simpa using hd, k⟩
/-- An operation that reads: in every world of the classes. -/
theorem st_read {v : Value} (hs : s.elem i = false) (hd : Nat.blt d n = true) (h : ∀ b w, C b w → (execOp (env f) { dst := some d, op := op, type := ty, pos := pos, after := af, guard := gd }).run P w = .ok (.value v) w) (k : K (upd f d v))
    (hw : Region.wanted { dst := some d, op := op, type := ty, pos := pos, after := af, guard := gd } (yieldE ops f) = true := by exact rfl) : Yields P ops s C n i { dst := some d, op := op, type := ty, pos := pos, after := af, guard := gd } f K :=
  ⟨v, .inl ⟨hw, fun b w _ hC => by rw [h b w hC, step, if_neg (not_in hs)]; exact ⟨hC, rfl⟩⟩, by simpa using hd, k⟩
theorem st_skip (hs : s.elem i = false) (hd : Nat.blt d n = true) (hw : Region.wanted { dst := some d, op := op, type := ty, pos := pos, after := af, guard := gd } (yieldE ops f) = false) (k : K (upd f d undef)) : Yields P ops s C n i { dst := some d, op := op, type := ty, pos := pos, after := af, guard := gd } f K :=
  ⟨undef, .inr ⟨hw, rfl, not_in hs⟩, by simpa using hd, k⟩
theorem st_call {g : FuncId} {args : Array Value} {r : Value} (hs : s.elem i = false) (hd : Nat.blt d n = true) (hrun : ∀ w, (execOp (env f) { dst := some d, op := op, type := ty, pos := pos, after := af, guard := gd }).run P w = .ok (.enter g args) w)
    (hc : ∀ b w, C b w → Calls P g args w fun e w' => e = .returned r ∧ C b w') (k : K (upd f d r))
    (hw : Region.wanted { dst := some d, op := op, type := ty, pos := pos, after := af, guard := gd } (yieldE ops f) = true := by exact rfl) : Yields P ops s C n i { dst := some d, op := op, type := ty, pos := pos, after := af, guard := gd } f K :=
  ⟨r, .inl ⟨hw, fun b w _ hC => by rw [hrun w, step, if_neg (not_in hs)]; exact ⟨rfl, hc b w hC⟩⟩, by simpa using hd, k⟩

theorem pos_one {s : List Nat} {i b k : Nat} (hn : s.Nodup) (hk : s[k]? = some i) (hb : s[b]? = some i) : b = k := by
  obtain ⟨h1, e1⟩ := List.getElem?_eq_some_iff.1 hk
  obtain ⟨h2, e2⟩ := List.getElem?_eq_some_iff.1 hb
  exact (List.getElem_inj hn).1 (e2.trans e1.symm)
/-- The k-th of the operations that change the memory: it yields a value. -/
theorem st_turn {v : Value} (m : Nat) (hm : s[m]? = some i) (hn : s.Nodup) (hd : Nat.blt d n = true) (h : ∀ w, C m w → ∃ w', (execOp (env f) { dst := some d, op := op, type := ty, pos := pos, after := af, guard := gd }).run P w = .ok (.value v) w' ∧ C (m + 1) w') (k : K (upd f d v))
    (hw : Region.wanted { dst := some d, op := op, type := ty, pos := pos, after := af, guard := gd } (yieldE ops f) = true := by exact rfl) : Yields P ops s C n i { dst := some d, op := op, type := ty, pos := pos, after := af, guard := gd } f K := by
  have hi : i ∈ s := List.mem_of_getElem? hm
  refine ⟨v, .inl ⟨hw, fun b w hb hC => ?_⟩, by simpa using hd, k⟩
  obtain rfl := pos_one hn hm (hb hi)
  obtain ⟨w', e, h'⟩ := h w hC
  rw [e, step, if_pos hi]
  exact ⟨h', rfl⟩
/-- The k-th of them: a store. -/
theorem st_store (m : Nat) (hm : s[m]? = some i) (hn : s.Nodup) (h : ∀ w, C m w → ∃ w', (execOp (env f) { dst := none, op := op, type := ty, pos := pos, after := af, guard := gd }).run P w = .ok .skip w' ∧ C (m + 1) w') (k : K f)
    (hw : Region.wanted { dst := none, op := op, type := ty, pos := pos, after := af, guard := gd } (yieldE ops f) = true := by exact rfl) : Yields P ops s C n i { dst := none, op := op, type := ty, pos := pos, after := af, guard := gd } f K := by
  have hi : i ∈ s := List.mem_of_getElem? hm
  refine ⟨undef, .inl ⟨hw, fun b w hb hC => ?_⟩, k⟩
  obtain rfl := pos_one hn hm (hb hi)
  obtain ⟨w', e, h'⟩ := h w hC
  rw [e, step, if_pos hi]
  exact ⟨h', rfl⟩
end

section
variable {ops : Array Oper} {s : List Nat} {i n : Nat} {C : Nat → World → Prop} {K : (Nat → Value) → Prop} {f : Nat → Value} {d : Tmp} {ty : TypeId} {pos : String} {af : Array Edge} {gd : Option (Nat × Bool)} {x y : Operand}
theorem st_loadSeg {a : Addr} {g : Sg} (hV : ∀ b w, C b w → SegAt w a g) (hs : s.elem i = false) (hd : Nat.blt d n = true) (hx : env f x = .pointer (some a)) (k : K (upd f d (seg g)))
    (hw : Region.wanted { dst := some d, op := .load 38 x, type := ty, pos := pos, after := af, guard := gd } (yieldE ops f) = true := by exact rfl) :
    Yields Tryd.prog ops s C n i { dst := some d, op := .load 38 x, type := ty, pos := pos, after := af, guard := gd } f K :=
  st_read hs hd (fun b w hC => run_loadSeg hx (hV b w hC)) k hw
theorem st_loadFld {a : Addr} {z : Int} (hV : ∀ b w, C b w → w.cell? a = some (.int .i64 z)) (hs : s.elem i = false) (hd : Nat.blt d n = true) (hx : env f x = .pointer (some a)) (k : K (upd f d (.int .i64 z)))
    (hw : Region.wanted { dst := some d, op := .load 3 x, type := ty, pos := pos, after := af, guard := gd } (yieldE ops f) = true := by exact rfl) :
    Yields Tryd.prog ops s C n i { dst := some d, op := .load 3 x, type := ty, pos := pos, after := af, guard := gd } f K :=
  st_read hs hd (fun b w hC => run_loadFld hx (hV b w hC)) k hw
end

/-- The worlds, one for each level. -/
def Ex (Ws : Nat → World) (b : Nat) (w : World) : Prop := w = Ws b
def w3 (a b c : World) : Nat → World
  | 0 => a
  | 1 => b
  | _ => c

section
variable {P : Program} {ρ : Operand → Value} {dst : Option Tmp} {ty : TypeId} {pos : String} {af : Array Edge} {x y : Operand} {w : World} {gd : Option (Nat × Bool)}
theorem run_lit {s : Sg} (hx : ρ x = seg s) :
    (execOp ρ { dst := dst, op := .buildSlice 22 1 #[(0, x)], type := ty, pos := pos, after := af, guard := gd }).run Tryd.prog w = .ok (.value (.slice (some ⟨w.heap.size, 0, none⟩) 1 1)) (w.alloc (.cells (cel s) 38)) := by
  go_simp
theorem run_append {t : TypeId} {v v' u : Value} {w' : World} (hx : ρ x = v) (hy : ρ y = u) (h : (Builtin.append_ #[t, t] ty #[v, u]).run P w = .ok v' w') :
    (execOp ρ { dst := dst, op := .call { callee := .builtin .append, args := #[x, y], argTypes := #[t, t] }, type := ty, pos := pos, after := af, guard := gd }).run P w = .ok (.value v') w' := by
  unfold execOp
  simp only [resolve, invoke, builtin, Sem.run_bind, Sem.run_pure, Result.andThen_ok, List.map_toArray, List.map_cons, List.map_nil, hx, hy, h]
theorem run_build3 {c0 : Value} {z1 z2 : Operand} {a b : Int} {k : Int} (h0 : ρ x = .int .i64 k) (h1 : ρ z1 = .int .i64 a) (h2 : ρ z2 = .int .i64 b) :
    (execOp ρ { dst := dst, op := .build 38 #[(0, x), (1, z1), (2, z2)], type := ty, pos := pos, after := af, guard := gd }).run Tryd.prog w = .ok (.value (seg ⟨k, a, b, 0, 0, 0⟩)) w := by
  go_simp
theorem run_build6 {z0 z1 z2 z3 z4 z5 : Operand} {k a b c d e : Int} (h0 : ρ z0 = .int .i64 k) (h1 : ρ z1 = .int .i64 a) (h2 : ρ z2 = .int .i64 b) (h3 : ρ z3 = .int .i64 c) (h4 : ρ z4 = .int .i64 d) (h5 : ρ z5 = .int .i64 e) :
    (execOp ρ { dst := dst, op := .build 38 #[(0, z0), (1, z1), (2, z2), (3, z3), (4, z4), (5, z5)], type := ty, pos := pos, after := af, guard := gd }).run Tryd.prog w = .ok (.value (seg ⟨k, a, b, c, d, e⟩)) w := by
  go_simp
end

theorem ex_below {B : Nat} {w a b c : World} (h0 : Below B w a) (h1 : Below B w b) (h2 : Below B w c) : ∀ m w1, Ex (w3 a b c) m w1 → Below B w w1
  | 0, _, h => by cases h; exact h0
  | 1, _, h => by cases h; exact h1
  | _ + 2, _, h => by cases h; exact h2
theorem run_storeInt {ρ : Operand → Value} {dst : Option Tmp} {ty : TypeId} {pos : String} {af : Array Edge} {x y : Operand} {w : World} {gd : Option (Nat × Bool)} {b j : Nat} {z : Int} {c : Array Value} {t : TypeId} {old : Value} (hx : ρ x = .pointer (some ⟨b, j, none⟩)) (hy : ρ y = .int .i64 z) (hV : Var w b c t) (hj : c[j]? = some old) :
    (execOp ρ { dst := dst, op := .store 3 x y, type := ty, pos := pos, after := af, guard := gd }).run Tryd.prog w = .ok .skip (w.setCell ⟨b, j, none⟩ (.int .i64 z)) := by
  have h1 : w.cell? ⟨b, j, none⟩ = some old := (hV.cell j).trans hj
  have h2 : w.frozen? ⟨b, j, none⟩ = false := hV.free j
  go_simp
theorem infoSeg : (Tryd.prog.info? 38).map (fun i => (i.zero, i.size, i.bytes)) = some (some (seg ⟨0, 0, 0, 0, 0, 0⟩), 6, 48) := by kernel_rfl

/-- append of one segment, out of a literal's block. -/
theorem append_seg {w : World} {B n : Nat} {v : Value} {xs : List Sg} {s : Sg} {ty : TypeId} (hB : B ≤ w.heap.size) (hown : w.ownsRow B 38 6 v n (flat xs)) (hl : n ≤ 100000) :
    ∃ v' w', (Builtin.append_ #[22, 22] ty #[v, .slice (some ⟨w.heap.size, 0, none⟩) 1 1]).run Tryd.prog (w.alloc (.cells (cel s) 38)) = .ok v' w' ∧ w'.ownsRow B 38 6 v' (n + 1) (flat (xs ++ [s])) ∧ Below B w w' := by
  obtain ⟨i0, hi, hz0, hz1, hz2⟩ := info_parts infoSeg
  have hown1 := hown.alloc (.cells (cel s) 38)
  obtain ⟨v', w', h1, h2, h3, -⟩ := run_append_own (P := Tryd.prog) (w.alloc (.cells (cel s) 38)) B 22 ty 38 i0 _ 6 48 Tryd.underlying22 hi hz0 hz1 hz2 rfl (by decide) v n (flat xs) hown1
    ⟨w.heap.size, 0, none⟩ 1 1 (cel s).toList rfl (fun j u hu => by
      have hV := (Var.new w (cel s) 38 _ rfl).cell j
      rw [show (⟨w.heap.size, 0, none⟩ : Addr).add j = ⟨w.heap.size, j, none⟩ by unfold Addr.add; split <;> simp_all, hV]
      simpa using hu) (fun u hu => by
      simp only [List.mem_cons, List.not_mem_nil, or_false] at hu
      rcases hu with rfl | rfl | rfl | rfl | rfl | rfl <;> rfl) (by unfold maxLen; omega) (by omega) (by simp; omega)
  refine ⟨v', w', h1, by rw [flat_append]; simpa [flat] using h2, ?_⟩
  exact ((Below.refl B w).alloc hB _).grown h3 (by simp; omega) (fun k hk => (hown1.lt k hk).1)

end Go.Proofs.YtijkoaggcmgjiabDoor.F2
