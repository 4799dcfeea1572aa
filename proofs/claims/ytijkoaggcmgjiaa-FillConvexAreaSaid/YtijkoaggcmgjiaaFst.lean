/- What fill.Fill holds while it goes down the rows; its operations. -/
import Derived.Test.YtijkoaggcmgjiaaDel
import Derived.Test.YtijkoaggcmgjiaaApr
import Derived.Test.YtijkoaggcmgjiaaSto
import Derived.Test.YtijkoaggcmgjiaaCmb
import Derived.Deep.DeepCutAuto
namespace Go.Proofs.Ytijkoaggcmgjiaa
open Go Go.RowKit
set_option linter.unusedVariables false

/-- Two slices lie in different blocks. -/
def apart (v u : Value) : Prop := ∀ q, v.ownBlock = some q → u.ownBlock ≠ some q
theorem apart.symm {v u : Value} (h : apart v u) : apart u v := fun q h1 h2 => h q h2 h1
theorem apart.gr {v v' u : Value} {W w : World} (h : apart v u) (hg : Gr v v' W w) (hu : ∀ q, u.ownBlock = some q → q < W.heap.size) : apart v' u := fun q h1 h2 => by
  rcases hg.o q h1 with h3 | h3
  · exact h q h3 h2
  · have := hu q h2; omega
theorem apart.nil (u : Value) : apart (.slice none 0 0) u := fun q h => by cases h
theorem apart.like {v u u' : Value} (h : apart v u) (e : u'.ownBlock = u.ownBlock) : apart v u' := fun q h1 => by rw [e]; exact h q h1
/-- The block of a variable, as a slice of it. -/
def yb (b : Nat) : Value := .slice (some ⟨b, 0, none⟩) 1 1
theorem yb_own (b q : Nat) : (yb b).ownBlock = some q ↔ b = q := by show some b = some q ↔ _; simp
theorem Gr.keeps {v v' u : Value} {W w : World} (hg : Gr v v' W w) (h : apart v u) (hu : ∀ q, u.ownBlock = some q → q < W.heap.size) : ∀ q, u.ownBlock = some q → w.heap[q]? = W.heap[q]? := fun q hq => hg.block (hu q hq) (h.symm q hq)

structure FSt (B : Nat) (w0 wr : World) (W : List Sl) (b : Nat) (y : Int) (vW vF vA vS : Value) (k : Nat) (act : List Sl) (acc : List Rn) (ss : List Stp) : Prop where
  be : Below B w0 wr
  yv : Var wr b #[.int .i64 y] 3
  bB : B ≤ b
  wt : ∃ Aw cw, vW = .slice Aw (W.length - k) cw ∧ W.length - k ≤ cw ∧ cw ≤ maxLen ∧ RowS wr Aw (W.drop k)
  wl : ∀ q, vW.ownBlock = some q → q < wr.heap.size
  hk : k ≤ W.length
  fl : OwnR wr B vF acc
  ac : OwnS wr B vA act
  st : OwnT wr B vS ss
  FA : apart vF vA
  FS : apart vF vS
  FW : apart vF vW
  FY : apart vF (yb b)
  AS : apart vA vS
  AW : apart vA vW
  AY : apart vA (yb b)
  SW : apart vS vW
  SY : apart vS (yb b)
  WY : apart vW (yb b)
section
variable {B : Nat} {w0 wr w' : World} {W : List Sl} {b : Nat} {y : Int} {vW vF vA vS : Value} {k : Nat} {act : List Sl} {acc : List Rn} {ss : List Stp}
theorem FSt.yl (h : FSt B w0 wr W b y vW vF vA vS k act acc ss) : ∀ q, (yb b).ownBlock = some q → q < wr.heap.size := fun q hq => by
  have := (yb_own b q).1 hq
  subst this
  exact h.yv.lt
theorem FSt.next (h : FSt B w0 wr W b y vW vF vA vS k act acc ss) (hB : B ≤ wr.heap.size) (hb : Below wr.heap.size wr w') : FSt B w0 w' W b y vW vF vA vS k act acc ss := by
  obtain ⟨Aw, cw, e, h1, h2, h3⟩ := h.wt
  exact { h with
    be := h.be.trans (hb.mono hB)
    yv := h.yv.next hb
    wt := ⟨Aw, cw, e, h1, h2, h3.next hb⟩
    wl := fun q hq => Nat.lt_of_lt_of_le (h.wl q hq) hb.size
    fl := h.fl.next hb
    ac := h.ac.next hb
    st := h.st.next hb }
theorem rows_gr {u u' : Value} {Aw : Option Addr} {n c : Nat} {xs : List Sl} (h : RowS wr Aw xs) (hg : Gr u u' wr w') (ha : apart u (.slice Aw n c)) : RowS w' Aw xs :=
  RowS.gr h hg fun a e h2 => by subst e; exact ha _ h2 rfl
theorem FSt.activ (h : FSt B w0 wr W b y vW vF vA vS k act acc ss) (hB : B ≤ wr.heap.size) {vA' : Value} {act' : List Sl} (ho : OwnS w' B vA' act') (hg : Gr vA vA' wr w') : FSt B w0 w' W b y vW vF vA' vS k act' acc ss := by
  obtain ⟨Aw, cw, e, h1, h2, h3⟩ := h.wt
  have fl := fun q hq => (h.fl.ge q hq).2
  have sl := fun q hq => ((h.st.ge q hq).2)
  subst e
  exact { h with
    be := h.be.trans (hg.below hB fun q hq => (h.ac.ge q hq).1)
    yv := h.yv.keep (hg.keeps h.AY h.yl b rfl)
    wt := ⟨Aw, cw, rfl, h1, h2, rows_gr h3 hg h.AW⟩
    wl := fun q hq => Nat.lt_of_lt_of_le (h.wl q hq) hg.size
    fl := h.fl.keep (hg.keeps h.FA.symm fl)
    ac := ho
    st := h.st.keep (hg.keeps h.AS sl)
    FA := (h.FA.symm.gr hg fl).symm
    AS := h.AS.gr hg sl
    AW := h.AW.gr hg h.wl
    AY := h.AY.gr hg h.yl }
theorem FSt.fill (h : FSt B w0 wr W b y vW vF vA vS k act acc ss) (hB : B ≤ wr.heap.size) {vF' : Value} {acc' : List Rn} (ho : OwnR w' B vF' acc') (hg : Gr vF vF' wr w') : FSt B w0 w' W b y vW vF' vA vS k act acc' ss := by
  obtain ⟨Aw, cw, e, h1, h2, h3⟩ := h.wt
  have al := fun q hq => (h.ac.ge q hq).2
  have sl := fun q hq => ((h.st.ge q hq).2)
  subst e
  exact { h with
    be := h.be.trans (hg.below hB fun q hq => (h.fl.ge q hq).1)
    yv := h.yv.keep (hg.keeps h.FY h.yl b rfl)
    wt := ⟨Aw, cw, rfl, h1, h2, rows_gr h3 hg h.FW⟩
    wl := fun q hq => Nat.lt_of_lt_of_le (h.wl q hq) hg.size
    fl := ho
    ac := h.ac.keep (hg.keeps h.FA al)
    st := h.st.keep (hg.keeps h.FS sl)
    FA := h.FA.gr hg al
    FS := h.FS.gr hg sl
    FW := h.FW.gr hg h.wl
    FY := h.FY.gr hg h.yl }
theorem FSt.step (h : FSt B w0 wr W b y vW vF vA vS k act acc ss) (hB : B ≤ wr.heap.size) {v0 vS' : Value} {ss' : List Stp} (e0 : v0.ownBlock = vS.ownBlock) (ho : OwnT w' B vS' ss') (hg : Gr v0 vS' wr w') : FSt B w0 w' W b y vW vF vA vS' k act acc ss' := by
  obtain ⟨Aw, cw, e, h1, h2, h3⟩ := h.wt
  have al := fun q hq => (h.ac.ge q hq).2
  have fl := fun q hq => (h.fl.ge q hq).2
  have SF : apart v0 vF := (h.FS.like e0).symm
  have SA : apart v0 vA := (h.AS.like e0).symm
  have SW : apart v0 vW := (h.SW.symm.like e0).symm
  have SY : apart v0 (yb b) := (h.SY.symm.like e0).symm
  subst e
  exact { h with
    be := h.be.trans (hg.below hB fun q hq => (h.st.ge q (e0 ▸ hq)).1)
    yv := h.yv.keep (hg.keeps SY h.yl b rfl)
    wt := ⟨Aw, cw, rfl, h1, h2, rows_gr h3 hg SW⟩
    wl := fun q hq => Nat.lt_of_lt_of_le (h.wl q hq) hg.size
    fl := h.fl.keep (hg.keeps SF fl)
    ac := h.ac.keep (hg.keeps SA al)
    st := ho
    FS := (SF.gr hg fl).symm
    AS := (SA.gr hg al).symm
    SW := SW.gr hg h.wl
    SY := SY.gr hg h.yl }
/-- The variable y is set. -/
theorem FSt.setY (h : FSt B w0 wr W b y vW vF vA vS k act acc ss) (z : Int) : FSt B w0 (wr.setCell ⟨b, 0, none⟩ (.int .i64 z)) W b z vW vF vA vS k act acc ss := by
  obtain ⟨Aw, cw, e, h1, h2, h3⟩ := h.wt
  have hg : Gr (yb b) (yb b) wr (wr.setCell ⟨b, 0, none⟩ (.int .i64 z)) := Gr.set
  have al := fun q hq => (h.ac.ge q hq).2
  have fl := fun q hq => (h.fl.ge q hq).2
  have sl := fun q hq => ((h.st.ge q hq).2)
  subst e
  exact { h with
    be := h.be.setCell (p := ⟨b, 0, none⟩) h.bB _
    yv := h.yv.set (i := 0) (.int .i64 z)
    wt := ⟨Aw, cw, rfl, h1, h2, rows_gr h3 hg h.WY.symm⟩
    wl := fun q hq => by rw [World.size_setCell]; exact h.wl q hq
    fl := h.fl.keep (hg.keeps h.FY.symm fl)
    ac := h.ac.keep (hg.keeps h.AY.symm al)
    st := h.st.keep (hg.keeps h.SY.symm sl) }
/-- The round's own copy of y. -/
theorem FSt.newY (h : FSt B w0 wr W b y vW vF vA vS k act acc ss) (hB : B ≤ wr.heap.size) (z : Int) : FSt B w0 (wr.alloc (.cells #[.int .i64 z] 3)) W wr.heap.size z vW vF vA vS k act acc ss := by
  have hn := h.next hB ((Below.refl _ wr).alloc (Nat.le_refl _) (.cells #[.int .i64 z] 3))
  have far : ∀ v : Value, (∀ q, v.ownBlock = some q → q < wr.heap.size) → apart v (yb wr.heap.size) := fun v hv q h1 h2 => by
    have := hv q h1
    have := (yb_own _ _).1 h2
    omega
  exact { hn with
    yv := Var.new _ _ _ _ rfl
    bB := hB
    FY := far _ fun q hq => (h.fl.ge q hq).2
    AY := far _ fun q hq => (h.ac.ge q hq).2
    SY := far _ fun q hq => (h.st.ge q hq).2
    WY := far _ h.wl }
end
end Go.Proofs.Ytijkoaggcmgjiaa
namespace Go.Proofs.Ytijkoaggcmgjiaa
open Go Go.RowKit
set_option linter.unusedVariables false
set_option linter.unusedSimpArgs false

def ptrInt (w : World) : Value → Int
  | .pointer (some a) => match w.cell? a with
    | some (.int _ z) => z
    | _ => 0
  | _ => 0
theorem ptrInt_is {w : World} {b : Nat} {z : Int} (h : w.cell? ⟨b, 0, none⟩ = some (.int .i64 z)) : ptrInt w (.pointer (some ⟨b, 0, none⟩)) = z := by
  unfold ptrInt; simp only; rw [h]
def lenV : Value → Nat
  | .slice _ n _ => n
  | _ => 0
section
variable {ρ : Operand → Value} {dst : Option Tmp} {ty : TypeId} {pos : String} {af : Array Edge} {x y : Operand} {w : World} {gd : Option (Nat × Bool)}
theorem run_lenS {A : Option Addr} {n c : Nat} (hx : ρ x = .slice A n c) :
    (execOp ρ { dst := dst, op := .call { callee := .builtin .len, args := #[x], argTypes := #[72] }, type := ty, pos := pos, after := af, guard := gd }).run Try.prog w = .ok (.value (.int .i64 (n : Int))) w := by
  go_simp
theorem run_gtrT {i j : Int} (hx : ρ x = .int .i64 i) (hy : ρ y = .int .i64 j) (h : j < i) :
    (execOp ρ { dst := dst, op := .binOp .gtr 3 x y 3, type := ty, pos := pos, after := af, guard := gd }).run Try.prog w = .ok (.value (.bool true)) w := by
  go_simp
theorem run_gtrF {i j : Int} (hx : ρ x = .int .i64 i) (hy : ρ y = .int .i64 j) (h : ¬ j < i) :
    (execOp ρ { dst := dst, op := .binOp .gtr 3 x y 3, type := ty, pos := pos, after := af, guard := gd }).run Try.prog w = .ok (.value (.bool false)) w := by
  go_simp
theorem run_leqT {i j : Int} (hx : ρ x = .int .i64 i) (hy : ρ y = .int .i64 j) (h : i ≤ j) :
    (execOp ρ { dst := dst, op := .binOp .leq 3 x y 3, type := ty, pos := pos, after := af, guard := gd }).run Try.prog w = .ok (.value (.bool true)) w := by
  go_simp
theorem run_leqF {i j : Int} (hx : ρ x = .int .i64 i) (hy : ρ y = .int .i64 j) (h : ¬ i ≤ j) :
    (execOp ρ { dst := dst, op := .binOp .leq 3 x y 3, type := ty, pos := pos, after := af, guard := gd }).run Try.prog w = .ok (.value (.bool false)) w := by
  go_simp
theorem run_idxS0 {a : Addr} {n c : Nat} (hx : ρ x = .slice (some a) n c) (hk : ρ (.const (.int .i64 0)) = .int .i64 0) (hn : 0 < n) :
    (execOp ρ { dst := dst, op := .indexAddr 72 x (.const (.int .i64 0)), type := ty, pos := pos, after := af, guard := gd }).run Try.prog w = .ok (.value (.pointer (some a))) w := by
  have h1 : (0 : Int) < (n : Int) := by omega
  go_simp
theorem run_fldSl0 {a : Addr} (hx : ρ x = .pointer (some a)) :
    (execOp ρ { dst := dst, op := .fieldAddr 77 x 0, type := ty, pos := pos, after := af, guard := gd }).run Try.prog w = .ok (.value (.pointer (some a))) w := by
  go_simp
theorem run_fldY {a : Addr} (hx : ρ x = .pointer (some a)) :
    (execOp ρ { dst := dst, op := .fieldAddr 40 x 1, type := ty, pos := pos, after := af, guard := gd }).run Try.prog w = .ok (.value (.pointer (some ⟨a.block, a.off + 1, none⟩))) w := by
  have e : a.add 1 = ⟨a.block, a.off + 1, none⟩ := rfl
  go_simp
end
theorem wpList_append_Sl {ops : Array Oper} {rest : List Oper} {o : Oper} {a : Act} {Q : Exit → Act → World → Prop} {w : World} {B : Nat} {v : Value} {xs : List Sl} {s : Sl} (hgd : o.guard = none) (y x : Operand)
    (ho : o.op = .call { callee := .builtin .append, args := #[y, x], argTypes := #[72, 72] }) (hB : B ≤ w.heap.size) (hs : a.eval y = v) (hx : a.eval x = .slice (some ⟨w.heap.size, 0, none⟩) 1 1)
    (hown : OwnS w B v xs) (hl : xs.length ≤ 5000000000)
    (k : ∀ v' w', OwnS w' B v' (xs ++ [s]) → Gr v v' w w' → wpList Try.prog ops Q rest (a.put o.dst v') w') : wpList Try.prog ops Q (o :: rest) a (w.alloc (.cells (slc s) 77)) := by
  obtain ⟨v', w', h1, h2, h3⟩ := append_s (ty := o.type) (s := s) hB hown hl
  refine wpList_plain hgd fun K hK' => ?_
  simp [Oper.wp, execOp, ho, resolve, invoke, builtin, hs, hx, h1, Result.andThen]
  exact hK' _ _ (k v' w' h2 h3)
theorem FSt.start {w0 w2 : World} {W : List Sl} {v0 : Value} {y : Int} (hb : Below w0.heap.size w0 w2) (ho : OwnS w2 w0.heap.size v0 W) :
    FSt w0.heap.size w0 (w2.alloc (.cells #[.int .i64 y] 3)) W w2.heap.size y v0 (.slice none 0 0) (.slice none 0 0) (.slice none 0 0) 0 [] [] [] := by
  have hB2 := (Below.refl w2.heap.size w2).alloc (Nat.le_refl _) (.cells #[.int .i64 y] 3)
  have ho2 := ho.next hB2
  obtain ⟨A, c, e, hr⟩ := ho2.is
  have hc : W.length ≤ c ∧ c ≤ maxLen := by
    rcases ho2.2 with ⟨h1, h2⟩ | ⟨g, cap, cur, h1, -, -, h4, h5, -⟩
    · rw [h1] at e
      injection e with _ _ e3
      rw [← e3, h2]; exact ⟨Nat.le_refl _, Nat.zero_le _⟩
    · rw [h1] at e
      injection e with _ _ e3
      rw [← e3]; exact ⟨h4, h5⟩
  exact {
    be := hb.trans (hB2.mono hb.size)
    yv := Var.new _ _ _ _ rfl
    bB := hb.size
    wt := ⟨A, c, e, hc.1, hc.2, by rw [List.drop_zero]; exact hr⟩
    wl := fun q hq => (ho2.ge q hq).2
    hk := Nat.zero_le _
    fl := OwnR.nil _ _
    ac := OwnS.nil _ _
    st := OwnT.nil _ _
    FA := apart.nil _
    FS := apart.nil _
    FW := apart.nil _
    FY := apart.nil _
    AS := apart.nil _
    AW := apart.nil _
    AY := apart.nil _
    SW := apart.nil _
    SY := apart.nil _
    WY := fun q h1 h2 => by
      have h3 := (ho.ge q h1).2
      have h4 := (yb_own _ _).1 h2
      omega }
/-- One slope less waits. -/
theorem FSt.wait {B : Nat} {w0 wr : World} {W : List Sl} {b : Nat} {y : Int} {vF vA vS : Value} {k cw : Nat} {Aw : Option Addr} {act : List Sl} {acc : List Rn} {ss : List Stp} (h : FSt B w0 wr W b y (.slice Aw (W.length - k) cw) vF vA vS k act acc ss) (hk : k < W.length) (a : Addr) (ha : Aw = some a) (n' : Nat) (hn' : n' = W.length - k - 1) :
    FSt B w0 wr W b y (.slice (some (if cw = 1 then a else a.add 5)) n' (cw - 1)) vF vA vS (k + 1) act acc ss := by
  obtain ⟨Aw', cw', e, h1, h2, h3⟩ := h.wt
  injection e with e1 _ e2
  subst ha; subst e1; subst e2; subst hn'
  have eo : (Value.slice (some (if cw = 1 then a else a.add 5)) (W.length - k - 1) (cw - 1)).ownBlock = (Value.slice (some a) (W.length - k) cw).ownBlock := by
    show some (if cw = 1 then a else a.add 5).block = some a.block
    split
    · rfl
    · rw [add_block]
  exact { h with
    wt := ⟨_, _, by rw [show W.length - (k + 1) = W.length - k - 1 by omega], by omega, by omega, fun hne => by
      have hne2 : W.drop k ≠ [] := fun e => by
        have : (W.drop k).length = 0 := by rw [e]; rfl
        rw [List.length_drop] at this
        omega
      obtain ⟨a', e', hl, hr⟩ := h3 hne2
      obtain rfl := Option.some.inj e'
      have hc1 : ¬ cw = 1 := fun e => by
        have : W.length - (k + 1) = 0 := by omega
        apply hne
        exact List.drop_eq_nil_of_le (by omega)
      refine ⟨a.add 5, by rw [if_neg hc1], by rw [add_block]; exact hl, fun i s hs => ?_⟩
      have := hr (i + 1) s (by rw [List.getElem?_drop] at hs ⊢; rw [← hs]; congr 1; omega)
      rw [add_add']
      rw [show 5 + i * 5 = (i + 1) * 5 by omega]
      exact this⟩
    wl := fun q hq => h.wl q (eo ▸ hq)
    hk := by omega
    FW := h.FW.like eo
    AW := h.AW.like eo
    SW := h.SW.like eo
    WY := (h.WY.symm.like eo).symm }
theorem run_sl0T {A : Option Addr} {n c : Nat} {ρ : Operand → Value} {dst : Option Tmp} {ty : TypeId} {pos : String} {af : Array Edge} {x : Operand} {w : World} {gd : Option (Nat × Bool)} (hx : ρ x = .slice A n c) (hk : ρ (.const (.int .i64 0)) = .int .i64 0) :
    (execOp ρ { dst := dst, op := .slice 74 x none (some (.const (.int .i64 0))) none, type := ty, pos := pos, after := af, guard := gd }).run Try.prog w = .ok (.value (.slice A 0 c)) w := by
  cases A <;> go_simp
theorem OwnT.zero {w : World} {B n c : Nat} {A : Option Addr} {ss : List Stp} (h : OwnT w B (.slice A n c) ss) : OwnT w B (.slice A 0 c) [] := by
  rcases h.2 with ⟨h1, h2⟩ | ⟨g, cap, cur, h1, h3, h4, h5, h6, h7, h8⟩
  · injection h1 with e1 e2 e3
    subst e1; subst e3
    exact OwnT.nil _ _
  · injection h1 with e1 e2 e3
    subst e1; subst e3
    exact ⟨rfl, .inr ⟨g, c, cur, rfl, h3, h4, Nat.zero_le _, h6, h7, by simp [flatT]⟩⟩
theorem ob0 (A : Option Addr) (n m c : Nat) : (Value.slice A n c).ownBlock = (Value.slice A m c).ownBlock := by cases A <;> rfl
theorem apart.row {v : Value} {A : Option Addr} {n c : Nat} (h : apart v (.slice A n c)) : ∀ a, A = some a → v.ownBlock ≠ some a.block := fun a e h2 => by subst e; exact h _ h2 rfl
theorem apart.no {v : Value} {b : Nat} (h : apart v (yb b)) : v.ownBlock ≠ some b := fun e => h b e rfl
/-- Fill's answer. -/
def GivesF (odd : Bool) (ls : List Ln) (w : World) (e : Ending) (w' : World) : Prop := (∃ v rs, e = .returned (.tuple #[v, .int .i64 0]) ∧ Filled odd ls rs ∧ OwnR w' w.heap.size v rs) ∧ Below w.heap.size w w'
end Go.Proofs.Ytijkoaggcmgjiaa
