/- Rows of lines while their points are reversed in their place. -/
import Derived.Test.YtcdedefhofkbhaaSRev
import Derived.Test.YtcdedefhofkbhaaSameL
namespace Go.Proofs.Ytcdedefhofkbhaa
open Go Go.RowKit
set_option linter.unusedVariables false
set_option linter.unusedSimpArgs false

/-- The lines of a row, those from i on not yet reversed; all of it lies between B and H. -/
def PartL (B H : Nat) (w : World) (g : Nat) (es : List LE) (i : Nat) : Prop := g < H ∧ g < w.heap.size ∧ ∀ k e, es[k]? = some e → w.cell? ⟨g, k * 2, none⟩ = some e.1 ∧ w.cell? ⟨g, k * 2 + 1, none⟩ = some (.bool e.2.cl) ∧
  ∃ gp cp cs, e.1 = .slice (some ⟨gp, 0, none⟩) e.2.ps.length cp ∧ gp ≠ g ∧ B ≤ gp ∧ gp < H ∧ gp < w.heap.size ∧ 0 < e.2.ps.length ∧ (i ≤ k → Var w gp cs 23 ∧ e.2.ps.length * 2 ≤ cs.size ∧ Row2 w gp e.2.ps)
/-- A row of lines behind H. -/
def PartM (H : Nat) (w : World) (g : Nat) (es : List LE) : Prop := H ≤ g ∧ g < w.heap.size ∧ ∀ k e, es[k]? = some e → w.cell? ⟨g, k * 2, none⟩ = some e.1 ∧ w.cell? ⟨g, k * 2 + 1, none⟩ = some (.bool e.2.cl) ∧
  ∃ gp cp, e.1 = .slice (some ⟨gp, 0, none⟩) e.2.ps.length cp ∧ H ≤ gp ∧ gp < w.heap.size ∧ Row2 w gp e.2.ps
theorem own_cells {w : World} {B n : Nat} {v : Value} {ps : List P2} (h : w.ownsRow B 23 2 v n (pfl ps)) (hn : 0 < n) : ∃ g c cs, v = .slice (some ⟨g, 0, none⟩) n c ∧ B ≤ g ∧ g < w.heap.size ∧ Var w g cs 23 ∧ n * 2 ≤ cs.size := by
  rcases h.2 with ⟨_, h0⟩ | ⟨g, cap, cur, hv, hb, hh, hc1, hc2, hsz, ht⟩
  · omega
  · have hlt : g < w.heap.size := (Array.getElem?_eq_some_iff.1 hh).1
    exact ⟨g, cap, cur, hv, hb, hlt, hh, by omega⟩
theorem OwnL.cell {w : World} {B g c : Nat} {es : List LE} (h : OwnL w B (.slice (some ⟨g, 0, none⟩) es.length c) es) {k : Nat} {e : LE} (he : es[k]? = some e) : w.cell? ⟨g, k * 2, none⟩ = some e.1 ∧ w.cell? ⟨g, k * 2 + 1, none⟩ = some (.bool e.2.cl) := by
  obtain ⟨A, c', h1, h2⟩ := h.lines
  have hk : k < es.length := by
    rcases Nat.lt_or_ge k es.length with x | x
    · exact x
    · rw [List.getElem?_eq_none x] at he; cases he
  obtain ⟨g', h3, h4, h5⟩ := h2 (by omega)
  cases h1
  cases h3
  exact ⟨(h5 k e he).1, (h5 k e he).2.1⟩
theorem OwnL.partL {w : World} {B g c H : Nat} {es : List LE} (h : OwnL w B (.slice (some ⟨g, 0, none⟩) es.length c) es) (h0 : 0 < es.length) (hH : w.heap.size ≤ H) : PartL B H w g es 0 := by
  obtain ⟨g', c', h1, h2, h3⟩ := own_lt h.r h0
  cases h1
  refine ⟨Nat.lt_of_lt_of_le h3 hH, h3, fun k e he => ⟨(h.cell he).1, (h.cell he).2, ?_⟩⟩
  have hp := h.p e (List.mem_of_getElem? he)
  obtain ⟨gp, cp, cs, q1, q2, q3, q4, q5⟩ := own_cells hp.1 hp.2
  obtain ⟨gp', cp', r1, -, -, r4⟩ := own_row hp.1 hp.2
  rw [q1] at r1
  cases r1
  refine ⟨gp, cp, cs, q1, fun ee => ?_, q2, Nat.lt_of_lt_of_le q3 hH, q3, hp.2, fun _ => ⟨q4, q5, r4⟩⟩
  have := own_apart h.r hp.1 (by decide) h0
  rw [q1, ee] at this
  exact this rfl
theorem OwnL.partM {w : World} {B g c : Nat} {es : List LE} (h : OwnL w B (.slice (some ⟨g, 0, none⟩) es.length c) es) (h0 : 0 < es.length) : PartM B w g es := by
  obtain ⟨g', c', h1, h2, h3⟩ := own_lt h.r h0
  cases h1
  refine ⟨h2, h3, fun k e he => ⟨(h.cell he).1, (h.cell he).2, ?_⟩⟩
  have hp := h.p e (List.mem_of_getElem? he)
  obtain ⟨gp, cp, q1, q2, q3, q4⟩ := own_row hp.1 hp.2
  exact ⟨gp, cp, q1, q2, q3, q4⟩
theorem PartL.next {B H : Nat} {w w' : World} {g i : Nat} {es : List LE} (h : PartL B H w g es i) (hb : Below w.heap.size w w') : PartL B H w' g es i := by
  obtain ⟨h1, h2, h3⟩ := h
  refine ⟨h1, Nat.lt_of_lt_of_le h2 hb.size, fun k e he => ?_⟩
  obtain ⟨a, b, gp, cp, cs, c1, c2, c3, c4, c5, c6, c7⟩ := h3 k e he
  exact ⟨(hb.cell (p := ⟨g, k * 2, none⟩) h2).trans a, (hb.cell (p := ⟨g, k * 2 + 1, none⟩) h2).trans b, gp, cp, cs, c1, c2, c3, c4, Nat.lt_of_lt_of_le c5 hb.size, c6, fun hk => ⟨(c7 hk).1.next hb, (c7 hk).2.1, (c7 hk).2.2.next c5 hb⟩⟩
theorem PartM.next {H : Nat} {w w' : World} {g : Nat} {es : List LE} (h : PartM H w g es) (hb : Below w.heap.size w w') : PartM H w' g es := by
  obtain ⟨h1, h2, h3⟩ := h
  refine ⟨h1, Nat.lt_of_lt_of_le h2 hb.size, fun k e he => ?_⟩
  obtain ⟨a, b, gp, cp, c1, c2, c3, c4⟩ := h3 k e he
  exact ⟨(hb.cell (p := ⟨g, k * 2, none⟩) h2).trans a, (hb.cell (p := ⟨g, k * 2 + 1, none⟩) h2).trans b, gp, cp, c1, c2, Nat.lt_of_lt_of_le c3 hb.size, c4.next c3 hb⟩
theorem grown_cell {w w' : World} {g b j : Nat} (h : w.grownBy w' (some g)) (hb : b < w.heap.size) (hne : b ≠ g) : w'.cell? ⟨b, j, none⟩ = w.cell? ⟨b, j, none⟩ := by
  simp only [World.cell?]
  rw [h.block b hb (fun e => hne (Option.some.inj e))]
theorem Row2.grown {w w' : World} {g b : Nat} {ps : List P2} (h : Row2 w b ps) (hg : w.grownBy w' (some g)) (hb : b < w.heap.size) (hne : b ≠ g) : Row2 w' b ps := fun i p hp =>
  ⟨(grown_cell hg hb hne).trans (h i p hp).1, (grown_cell hg hb hne).trans (h i p hp).2⟩
theorem PartM.grown {H : Nat} {w w' : World} {g gx : Nat} {es : List LE} (h : PartM H w g es) (hg : w.grownBy w' (some gx)) (hx : gx < H) : PartM H w' g es := by
  obtain ⟨h1, h2, h3⟩ := h
  refine ⟨h1, Nat.lt_of_lt_of_le h2 hg.size, fun k e he => ?_⟩
  obtain ⟨a, b, gp, cp, c1, c2, c3, c4⟩ := h3 k e he
  exact ⟨(grown_cell hg h2 (by omega)).trans a, (grown_cell hg h2 (by omega)).trans b, gp, cp, c1, c2, Nat.lt_of_lt_of_le c3 hg.size, c4.grown hg c3 (by omega)⟩
theorem PartL.grown {B H : Nat} {w w' : World} {g i gx cx : Nat} {es : List LE} {e : LE} (h : PartL B H w g es i) (hd : es.Pairwise fun a b => a.1.ownBlock ≠ b.1.ownBlock) (hi : es[i]? = some e) (hv : e.1 = .slice (some ⟨gx, 0, none⟩) e.2.ps.length cx)
    (hg : w.grownBy w' (some gx)) : PartL B H w' g es (i + 1) := by
  obtain ⟨h1, h2, h3⟩ := h
  obtain ⟨-, -, gp0, cp0, cs0, d1, d2, -⟩ := h3 i e hi
  rw [hv] at d1
  cases d1
  refine ⟨h1, Nat.lt_of_lt_of_le h2 hg.size, fun k e' he => ?_⟩
  obtain ⟨a, b, gp, cp, cs, c1, c2, c3, c4, c5, c6, c7⟩ := h3 k e' he
  refine ⟨(grown_cell hg h2 (Ne.symm d2)).trans a, (grown_cell hg h2 (Ne.symm d2)).trans b, gp, cp, cs, c1, c2, c3, c4, Nat.lt_of_lt_of_le c5 hg.size, c6, fun hk => ?_⟩
  obtain ⟨k1, k2, k3⟩ := c7 (by omega)
  have hne : gp ≠ gx := by
    have hil : i < es.length := (List.getElem?_eq_some_iff.1 hi).1
    have hkl : k < es.length := (List.getElem?_eq_some_iff.1 he).1
    have := List.pairwise_iff_getElem.1 hd i k hil hkl (by omega)
    rw [(List.getElem?_eq_some_iff.1 hi).2, (List.getElem?_eq_some_iff.1 he).2, hv, c1] at this
    intro ee
    rw [ee] at this
    exact this rfl
  exact ⟨k1.keep (hg.block gp c5 (fun e => hne (Option.some.inj e))), k2, k3.grown hg c5 hne⟩
theorem wp_frame {P : Program} {c : Code} {Q : Exit → Act → World → Prop} {tmps : Array Value} {w : World} {n : Nat} (hn : tmps.size = n) (h : ∀ g : Nat → Value, (∀ i, i < n → g i = tmps.getD i undef) → c.wp P Q ⟨((List.range n).map g).toArray, []⟩ w) : c.wp P Q ⟨tmps, []⟩ w := by
  rw [(Is.start _ hn).whole]
  exact h _ fun i hi => rfl

end Go.Proofs.Ytcdedefhofkbhaa
