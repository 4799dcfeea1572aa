/- Lines: slices of points with a mark; an argument that is a slice of lines. -/
import Derived.Test.YtjflgblplmgjlaaOpen
namespace Go.Proofs.Ytjflgblplmgjlaa
open Go Go.RowKit Go.ChangeShapes Go.WideShapes Go.ChangeAt Go.Deep
set_option linter.unusedVariables false

structure Ln where
  ps : List P2
  cl : Bool
instance : Inhabited Ln := ⟨⟨[], false⟩⟩
/-- A slice of points, whatever its room is. -/
def PSl (W : World) (v : Value) (ps : List P2) : Prop := ∃ A c, v = .slice A ps.length c ∧ Pts W A ps ∧ ps.length ≤ c ∧ c ≤ maxLen
/-- The cells of a line at an address. -/
structure LnAt (W : World) (a : Addr) (l : Ln) : Prop where
  c0 : ∃ A c, W.cell? a = some (.slice A l.ps.length c) ∧ Pts W A l.ps ∧ l.ps.length ≤ c ∧ c ≤ maxLen
  c1 : W.cell? ⟨a.block, a.off + 1, none⟩ = some (.bool l.cl)
/-- A slice that holds lines, nil and empty ones too. -/
def Lns (W : World) (A : Option Addr) (ls : List Ln) : Prop := ls ≠ [] → ∃ a, A = some a ∧ a.block < W.heap.size ∧ ∀ i l, ls[i]? = some l → LnAt W (a.add (i * 2)) l
theorem LnAt.below {W W' : World} {a : Addr} {l : Ln} (h : LnAt W a l) (hb : Below W.heap.size W W') (hl : a.block < W.heap.size) : LnAt W' a l := by
  obtain ⟨⟨A, c, e, hp, h1, h2⟩, c1⟩ := h
  refine ⟨⟨A, c, (hb.cell hl).trans e, hp.next hb, h1, h2⟩, ?_⟩
  have e1 : W'.cell? ⟨a.block, a.off + 1, none⟩ = W.cell? ⟨a.block, a.off + 1, none⟩ := hb.cell hl
  exact e1.trans c1
theorem Lns.nil (W : World) (A : Option Addr) : Lns W A [] := fun h => absurd rfl h
theorem Lns.next {W W' : World} {A : Option Addr} {ls : List Ln} (h : Lns W A ls) (hb : Below W.heap.size W W') : Lns W' A ls := fun hn => by
  obtain ⟨a, rfl, hl, hr⟩ := h hn
  exact ⟨a, rfl, Nat.lt_of_lt_of_le hl hb.size, fun i l hi => (hr i l hi).below hb (by rw [add_block]; exact hl)⟩
theorem Lns.at_ {W : World} {A : Option Addr} {ls : List Ln} (h : Lns W A ls) {i : Nat} (hi : i < ls.length) : ∃ a, A = some a ∧ a.block < W.heap.size ∧ LnAt W (a.add (i * 2)) ls[i] := by
  obtain ⟨a, rfl, hl, hr⟩ := h (by intro e; subst e; simp at hi)
  exact ⟨a, rfl, hl, hr i _ (List.getElem?_eq_getElem hi)⟩

/-- A line and where its points lie. -/
structure LE where
  A : Option Addr
  c : Nat
  ps : List P2
  cl : Bool
instance : Inhabited LE := ⟨⟨none, 0, [], false⟩⟩
def LE.ln (e : LE) : Ln := ⟨e.ps, e.cl⟩
structure LeAt (W : World) (a : Addr) (e : LE) : Prop where
  c0 : W.cell? a = some (.slice e.A e.ps.length e.c)
  c1 : W.cell? ⟨a.block, a.off + 1, none⟩ = some (.bool e.cl)
  pts : Pts W e.A e.ps
  le : e.ps.length ≤ e.c ∧ e.c ≤ maxLen
/-- A slice that holds lines whose points lie where es says. -/
def LnsE (W : World) (A : Option Addr) (es : List LE) : Prop := es ≠ [] → ∃ a, A = some a ∧ a.block < W.heap.size ∧ ∀ i e, es[i]? = some e → LeAt W (a.add (i * 2)) e
theorem LeAt.below {W W' : World} {a : Addr} {e : LE} (h : LeAt W a e) (hb : Below W.heap.size W W') (hl : a.block < W.heap.size) : LeAt W' a e := by
  obtain ⟨c0, c1, hp, h1⟩ := h
  have e1 : W'.cell? ⟨a.block, a.off + 1, none⟩ = W.cell? ⟨a.block, a.off + 1, none⟩ := hb.cell hl
  exact ⟨(hb.cell hl).trans c0, e1.trans c1, hp.next hb, h1⟩
theorem LnsE.nil (W : World) (A : Option Addr) : LnsE W A [] := fun h => absurd rfl h
theorem LnsE.next {W W' : World} {A : Option Addr} {es : List LE} (h : LnsE W A es) (hb : Below W.heap.size W W') : LnsE W' A es := fun hn => by
  obtain ⟨a, rfl, hl, hr⟩ := h hn
  exact ⟨a, rfl, Nat.lt_of_lt_of_le hl hb.size, fun i e hi => (hr i e hi).below hb (by rw [add_block]; exact hl)⟩
theorem LnsE.at_ {W : World} {A : Option Addr} {es : List LE} (h : LnsE W A es) {i : Nat} (hi : i < es.length) : ∃ a, A = some a ∧ a.block < W.heap.size ∧ LeAt W (a.add (i * 2)) es[i] := by
  obtain ⟨a, rfl, hl, hr⟩ := h (by intro e; subst e; simp at hi)
  exact ⟨a, rfl, hl, hr i _ (List.getElem?_eq_getElem hi)⟩
theorem LnsE.lns {W : World} {A : Option Addr} {es : List LE} (h : LnsE W A es) : Lns W A (es.map LE.ln) := fun hn => by
  obtain ⟨a, rfl, hl, hr⟩ := h (by intro e; subst e; exact hn rfl)
  refine ⟨a, rfl, hl, fun i l hi => ?_⟩
  rw [List.getElem?_map] at hi
  cases he : es[i]? with
  | none => rw [he] at hi; cases hi
  | some e =>
    rw [he] at hi
    obtain rfl : e.ln = l := Option.some.inj hi
    obtain ⟨c0, c1, hp, h1, h2⟩ := hr i e he
    exact ⟨⟨e.A, e.c, c0, hp, h1, h2⟩, c1⟩
theorem Lns.ext {W : World} {A : Option Addr} {ls : List Ln} (h : Lns W A ls) : ∃ es, es.map LE.ln = ls ∧ LnsE W A es := by
  by_cases hn : ls = []
  · subst hn; exact ⟨[], rfl, LnsE.nil _ _⟩
  · obtain ⟨a, rfl, hl, hr⟩ := h hn
    have each : ∀ i, i < ls.length → ∃ e : LE, ls[i]? = some e.ln ∧ LeAt W (a.add (i * 2)) e := fun i hi => by
      have h1 := List.getElem?_eq_getElem hi
      obtain ⟨⟨A', c', c0, hp, h2⟩, c1⟩ := hr i _ h1
      exact ⟨⟨A', c', ls[i].ps, ls[i].cl⟩, h1, c0, c1, hp, h2⟩
    obtain ⟨F, hF⟩ := choose_lt each
    refine ⟨(List.range ls.length).map F, ?_, fun _ => ⟨a, rfl, hl, fun i e hi => ?_⟩⟩
    · refine List.ext_getElem (by simp) fun i h1 h2 => ?_
      have h3 := (hF i h2).1
      rw [List.getElem?_eq_getElem h2] at h3
      simp only [List.getElem_map, List.getElem_range]
      exact (Option.some.inj h3).symm
    · have hin : i < ls.length := by
        have := (List.getElem?_eq_some_iff.1 hi).1
        simpa using this
      have : F i = e := by simpa [hin] using hi
      rw [← this]
      exact (hF i hin).2

section
variable {H : Type} {enc : TypeId × Value → H} {P : Program} {w : World} {base : Nat} {spare : Nat → Bool} {held : Bool}
theorem open_lines {r : Reach} {b0 : Nat} {t e tp ep : TypeId} {f0 f1 g0 g1 : Field} {v : Value} {d : DataW H} {p : List MemPlace} (ht : P.underlying t = some (.slice e)) (hs : P.underlying e = some (.struct #[f0, f1])) (hone : oneCellFields P #[f0, f1] = true) (hC : P.cellsOf e = 2)
    (hf0 : f0.type = tp) (hf1 : P.underlying f1.type = some .bool)
    (hpt : P.underlying tp = some (.slice ep)) (hps : P.underlying ep = some (.struct #[g0, g1])) (hpone : oneCellFields P #[g0, g1] = true) (hpC : P.cellsOf ep = 2) (hpk : (#[g0, g1].all fun f => isI64 P f.type) = true)
    (hv : Value.okWide P w r b0 t v) (h : DataW.Trod enc P w base spare held t v d p) :
    ∃ (A : Option Addr) (n c : Nat) (ss : List Ln), v = .slice A n c ∧ n = ss.length ∧ Lns w A ss ∧ ss.length ≤ maxLen := by
  obtain ⟨A, n, c, rfl⟩ := okWide_slice ht hv
  obtain ⟨fuel, hf⟩ := h
  rcases open_slice ht hf with ⟨h0, -⟩ | ⟨a, len, cap, m, k, D, Pl, h0, hb, hlc, hcm, hm, -, hx⟩
  · have h0' : Value.slice A n c = .slice none 0 0 := (List.cons.inj h0).1
    cases h0'
    exact ⟨none, 0, 0, [], rfl, rfl, Lns.nil _ _, Nat.zero_le _⟩
  · have h0' : Value.slice A n c = .slice (some a) len cap := (List.cons.inj h0).1
    cases h0'
    have hle : n ≤ m := by rw [hm]; split <;> omega
    have each : ∀ i, i < n → ∃ s : Ln, LnAt w (a.add (i * 2)) s := fun i hi => by
      obtain ⟨cs, h1, h2⟩ := hx i (by omega)
      rw [hC] at h1
      obtain ⟨-, hl, h3⟩ := World.cells?_some h1
      obtain ⟨y0, y1, q, -, -, k0, k1⟩ := trod_struct2 hs h2
      obtain ⟨o0, z0⟩ := hone_of hone 0 f0 rfl
      obtain ⟨o1, z1⟩ := hone_of hone 1 f1 rfl
      rw [o0, z0, hf0] at k0
      rw [o1, z1] at k1
      match cs, hl with
      | [u0, u1], _ =>
        have k0' : DataW.trod enc P w base spare held q tp [u0] = some y0 := k0
        have k1' : DataW.trod enc P w base spare held q f1.type [u1] = some y1 := k1
        obtain ⟨b, hb1, -⟩ := DataW.trod_bool hf1 k1'
        have e0 := h3 0 (by omega)
        have e1 := h3 1 (by omega)
        cases hb1
        have c1 : w.cell? ⟨(a.add (i * 2)).block, (a.add (i * 2)).off + 1, none⟩ = some (.bool b) := e1
        have c0 : w.cell? (a.add (i * 2)) = some u0 := e0
        rcases open_slice hpt k0' with ⟨h0, -⟩ | ⟨a', len', cap', m', k', D', Pl', h0, hb', hlc', hcm', hm', -, hx'⟩
        · cases h0
          exact ⟨⟨[], b⟩, ⟨none, 0, c0, Pts.nil _ _, Nat.le_refl _, Nat.zero_le _⟩, c1⟩
        · cases h0
          have hle' : len' ≤ m' := by rw [hm']; split <;> omega
          have each : ∀ i, i < len' → ∃ s : P2, PtAt w (a'.add (i * 2)) s := fun i hi => by
            obtain ⟨cs, h1, h2⟩ := hx' i (by omega)
            rw [hpC] at h1
            obtain ⟨zs, hl, rfl⟩ := open_cells hps hpone hpC hpk h2
            obtain ⟨-, -, h3⟩ := World.cells?_some h1
            match zs, hl with
            | [z0, z1], _ =>
              refine ⟨⟨z0, z1⟩, ptAt_of fun j hj => ?_⟩
              rw [h3 j hj]
              match j, hj with
              | 0, _ => rfl
              | 1, _ => rfl
          obtain ⟨F, hF⟩ := choose_lt each
          refine ⟨⟨(List.range len').map F, b⟩, ⟨some a', cap', by rw [c0]; simp, fun hn => ⟨a', rfl, ?_, fun i s hi => ?_⟩, by simp; omega, hcm'⟩, c1⟩
          · have h0 : 0 < len' := by
              rcases Nat.eq_zero_or_pos len' with e | e
              · subst e; exact absurd rfl hn
              · exact e
            have h1 := cell_lt (hF 0 h0).c0
            rwa [add_block] at h1
          · have hin : i < len' := by
              have := (List.getElem?_eq_some_iff.1 hi).1
              simpa using this
            have : F i = s := by simpa [hin] using hi
            rw [← this]
            exact hF i hin
    obtain ⟨F, hF⟩ := choose_lt each
    refine ⟨some a, n, c, (List.range n).map F, rfl, by simp, fun hn => ⟨a, rfl, ?_, fun i s hi => ?_⟩, by rw [List.length_map, List.length_range]; omega⟩
    · have h0 : 0 < n := by
        rcases Nat.eq_zero_or_pos n with e | e
        · subst e; exact absurd rfl hn
        · exact e
      obtain ⟨A, c, h1, -⟩ := (hF 0 h0).c0
      have h1 := cell_lt h1
      rwa [add_block] at h1
    · have hin : i < n := by
        have := (List.getElem?_eq_some_iff.1 hi).1
        simpa using this
      have : F i = s := by simpa [hin] using hi
      rw [← this]
      exact hF i hin
end
end Go.Proofs.Ytjflgblplmgjlaa
