/- Rows of lines whose points lie somewhere (out of fill's Few). -/
import Derived.Test.YtjflgblplmgjlaaLns
import Derived.Test.YtjflgblplmgjlaaAprt
import Derived.Lib.SliceRun
namespace Go.Proofs.Ytjflgblplmgjlaa
open Go Go.RowKit
set_option linter.unusedVariables false
set_option linter.unusedSimpArgs false

/-- The cells of lines whose points lie somewhere. -/
abbrev lec (e : LE) : Array Value := #[.slice e.A e.ps.length e.c, .bool e.cl]
def lflE (es : List LE) : List Value := es.flatMap fun e => (lec e).toList
theorem lflE_cons (e : LE) (r : List LE) : lflE (e :: r) = (lec e).toList ++ lflE r := rfl
theorem lflE_append (a b : List LE) : lflE (a ++ b) = lflE a ++ lflE b := by simp [lflE]
theorem lflE_length : ∀ es : List LE, (lflE es).length = es.length * 2
  | [] => rfl
  | e :: r => by rw [lflE_cons, List.length_append, lflE_length r]; simp; omega
theorem lflE_get : ∀ (es : List LE) (i : Nat) (e : LE), es[i]? = some e → (lflE es)[i * 2]? = some (.slice e.A e.ps.length e.c) ∧ (lflE es)[i * 2 + 1]? = some (.bool e.cl)
  | q :: r, 0, e, h => by
    obtain rfl : q = e := by simpa using h
    exact ⟨rfl, rfl⟩
  | q :: r, i + 1, e, h => by
    have := lflE_get r i e (by simpa using h)
    rw [lflE_cons]
    show ((.slice q.A q.ps.length q.c : Value) :: .bool q.cl :: lflE r)[(i + 1) * 2]? = _ ∧ ((.slice q.A q.ps.length q.c : Value) :: .bool q.cl :: lflE r)[(i + 1) * 2 + 1]? = _
    rw [show (i + 1) * 2 = i * 2 + 1 + 1 by omega]
    simpa using this
/-- Points that were there before a block number. -/
def OldP (w : World) (B : Nat) (e : LE) : Prop := Pts w e.A e.ps ∧ (e.ps ≠ [] → ∀ a, e.A = some a → a.block < B) ∧ e.ps.length ≤ e.c ∧ e.c ≤ maxLen
theorem OldP.below {w w' : World} {B : Nat} {e : LE} (h : OldP w B e) (hb : Below B w w') : OldP w' B e := by
  refine ⟨fun hn => ?_, h.2.1, h.2.2⟩
  obtain ⟨a, ha, hl, hr⟩ := h.1 hn
  have hB := h.2.1 hn a ha
  refine ⟨a, ha, Nat.lt_of_lt_of_le hl hb.size, fun i p hp => ?_⟩
  have := hr i p hp
  exact ⟨(hb.cell (by rw [add_block]; exact hB)).trans this.c0, (hb.cell (p := ⟨(a.add (i * 2)).block, (a.add (i * 2)).off + 1, none⟩) (by rw [add_block]; exact hB)).trans this.c1⟩
/-- A row of lines that a call owns, whose points are older. -/
structure OwnE (w : World) (B : Nat) (v : Value) (es : List LE) : Prop where
  r : w.ownsRow B 27 2 v es.length (lflE es)
  p : ∀ e ∈ es, OldP w B e
theorem OwnE.nil (w : World) (B : Nat) : OwnE w B (.slice none 0 0) [] := ⟨World.ownsRow_nil w B _ 2, fun e h => (by cases h)⟩
theorem OwnE.lns {w : World} {B : Nat} {v : Value} {es : List LE} (h : OwnE w B v es) : ∃ A c, v = .slice A es.length c ∧ LnsE w A es := by
  rcases h.r.2 with ⟨h1, h2⟩ | ⟨g, cap, cur, h1, h3, h4, h5, h6, h7, h8⟩
  · have : es = [] := List.eq_nil_of_length_eq_zero h2
    subst this
    exact ⟨none, 0, h1, LnsE.nil _ _⟩
  · refine ⟨some ⟨g, 0, none⟩, cap, h1, fun _ => ⟨_, rfl, (Array.getElem?_eq_some_iff.1 h4).1, fun i e he => ?_⟩⟩
    have hc : ∀ j u, (lflE es)[j]? = some u → w.cell? ⟨g, j, none⟩ = some u := fun j u hu => by
      have := World.ownsRow.cellAt (h1 ▸ h.r) j (by
        rcases Nat.lt_or_ge j (lflE es).length with k | k
        · rw [lflE_length] at k; exact k
        · rw [List.getElem?_eq_none k] at hu; cases hu)
      rw [this]; exact hu
    obtain ⟨g1, g2⟩ := lflE_get es i e he
    have hp := h.p e (List.mem_of_getElem? he)
    rw [adr0]
    exact ⟨hc _ _ g1, hc _ _ g2, hp.1, hp.2.2⟩
theorem infoLe : (Try.prog.info? 27).map (fun i => (i.zero, i.size, i.bytes)) = some (some (.agg #[.slice none 0 0, .bool false]), 2, 32) := by kernel_rfl
theorem append_le {w : World} {B : Nat} {v : Value} {es : List LE} {e : LE} {ty : TypeId} (hB : B ≤ w.heap.size) (h : OwnE w B v es) (hp : OldP w B e) (hl : es.length ≤ 5000000000) :
    ∃ v' w', (Builtin.append_ #[22, 22] ty #[v, .slice (some ⟨w.heap.size, 0, none⟩) 1 1]).run Try.prog (w.alloc (.cells (lec e) 27)) = .ok v' w' ∧ OwnE w' B v' (es ++ [e]) ∧ Gr v v' w w' := by
  obtain ⟨i0, hi, hz0, hz1, hz2⟩ := info_parts infoLe
  have hown1 := World.ownsRow.alloc h.r (.cells (lec e) 27)
  obtain ⟨g, c, w', h1, h2, h3, h4, h5⟩ := run_append_lies (P := Try.prog) (w := w.alloc (.cells (lec e) 27)) 22 ty B 27 i0 _ 2 32 Try.underlying22 hi hz0 hz1 hz2 rfl (by decide) v es.length (lflE es) hown1
    ⟨w.heap.size, 0, none⟩ 1 1 (lec e).toList rfl (fun j u hu => by
      have hV := (Var.new w (lec e) 27 _ rfl).cell j
      rw [adr0, hV]
      simpa using hu) (fun u hu => by
      simp only [List.mem_cons, List.not_mem_nil, or_false] at hu
      rcases hu with rfl | rfl <;> rfl) (by decide) (by unfold maxLen; omega) (by omega) (by simp; omega) _ rfl
  have hgr : Gr v (.slice (some ⟨g, 0, none⟩) (es.length + 1) c) w w' := by
    refine (Gr.of_below (v := v) ((Below.refl w.heap.size w).alloc (Nat.le_refl _) (.cells (lec e) 27))).trans ⟨h3, fun k hk => ?_⟩
    rcases h4 with h4 | h4
    · refine .inl (h4.trans ?_)
      simpa [Value.ownBlock] using hk
    · refine .inr ?_
      have : g = k := by simpa [Value.ownBlock] using hk
      omega
  have hbel : Below B w w' := hgr.below hB fun k hk => (World.ownsRow.lt h.r k hk).1
  refine ⟨_, w', h1, ⟨?_, fun x hx => ?_⟩, hgr⟩
  · rw [lflE_append, List.length_append]
    simpa [lflE] using h2
  · rcases List.mem_append.1 hx with hx | hx
    · exact (h.p x hx).below hbel
    · rw [List.mem_singleton] at hx; subst hx; exact hp.below hbel
theorem wpList_append_Le {ops : Array Oper} {rest : List Oper} {o : Oper} {a : Act} {Q : Exit → Act → World → Prop} {w : World} {B : Nat} {v : Value} {es : List LE} {s : LE} (hgd : o.guard = none) (y x : Operand)
    (ho : o.op = .call { callee := .builtin .append, args := #[y, x], argTypes := #[22, 22] }) (hB : B ≤ w.heap.size) (hs : a.eval y = v) (hx : a.eval x = .slice (some ⟨w.heap.size, 0, none⟩) 1 1)
    (hown : OwnE w B v es) (hp : OldP w B s) (hl : es.length ≤ 5000000000)
    (k : ∀ v' w', OwnE w' B v' (es ++ [s]) → Gr v v' w w' → wpList Try.prog ops Q rest (a.put o.dst v') w') : wpList Try.prog ops Q (o :: rest) a (w.alloc (.cells (lec s) 27)) := by
  obtain ⟨v', w', h1, h2, h3⟩ := append_le (ty := o.type) (e := s) hB hown hp hl
  refine wpList_plain hgd fun K hK' => ?_
  simp [Oper.wp, execOp, ho, resolve, invoke, builtin, hs, hx, h1, Result.andThen]
  exact hK' _ _ (k v' w' h2 h3)

end Go.Proofs.Ytjflgblplmgjlaa
