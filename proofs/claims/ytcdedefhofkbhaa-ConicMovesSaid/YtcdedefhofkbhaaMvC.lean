/- Rows of lines, their points shifted. -/
import Derived.Test.YtcdedefhofkbhaaMov
import Derived.Test.YtcdedefhofkbhaaFlatn
namespace Go.Proofs.Ytcdedefhofkbhaa
open Go Go.RowKit
set_option linter.unusedVariables false
set_option linter.unusedSimpArgs false

section
variable {ρ : Operand → Value} {dst : Option Tmp} {ty : TypeId} {pos : String} {af : Array Edge} {x y : Operand} {w : World} {gd : Option (Nat × Bool)}
theorem run_nePtV {p : P2} (hx : ρ x = ptv p) (hy : ρ y = ptv p) :
    (execOp ρ { dst := dst, op := .binOp .neq 23 x y 23, type := ty, pos := pos, after := af, guard := gd }).run Try.prog w = .ok (.value (.bool false)) w := by
  go_simp
theorem run_neE (hx : ρ x = .int .i64 0) (hy : ρ y = .int .i64 0) :
    (execOp ρ { dst := dst, op := .binOp .neq 28 x y 28, type := ty, pos := pos, after := af, guard := gd }).run Try.prog w = .ok (.value (.bool false)) w := by
  go_simp
theorem run_neN {i : Int} (hx : ρ x = .int .i64 i) (hy : ρ y = .int .i64 i) :
    (execOp ρ { dst := dst, op := .binOp .neq 3 x y 3, type := ty, pos := pos, after := af, guard := gd }).run Try.prog w = .ok (.value (.bool false)) w := by
  go_simp
end
/-- The cells of lines in a block, and their points. -/
def RowV (w : World) (g : Nat) (es : List LE) : Prop := g < w.heap.size ∧ ∀ i e, es[i]? = some e → w.cell? ⟨g, i * 2, none⟩ = some e.1 ∧ w.cell? ⟨g, i * 2 + 1, none⟩ = some (.bool e.2.cl) ∧
  ∃ gp cp, e.1 = .slice (some ⟨gp, 0, none⟩) e.2.ps.length cp ∧ gp < w.heap.size ∧ Row2 w gp e.2.ps
theorem RowV.next {w w' : World} {g : Nat} {es : List LE} (h : RowV w g es) (hb : Below w.heap.size w w') : RowV w' g es := ⟨Nat.lt_of_lt_of_le h.1 hb.size, fun i e he => by
  obtain ⟨h1, h2, gp, cp, h3, h4, h5⟩ := h.2 i e he
  exact ⟨(hb.cell (p := ⟨g, i * 2, none⟩) h.1).trans h1, (hb.cell (p := ⟨g, i * 2 + 1, none⟩) h.1).trans h2, gp, cp, h3, Nat.lt_of_lt_of_le h4 hb.size, h5.next h4 hb⟩⟩
theorem OwnL.rowV {w : World} {B : Nat} {v : Value} {es : List LE} (h : OwnL w B v es) : ∃ A c, v = .slice A es.length c ∧ (0 < es.length → ∃ g, A = some ⟨g, 0, none⟩ ∧ RowV w g es) := by
  rcases h.r.2 with ⟨h1, h2⟩ | ⟨g, cap, cur, hv, hb, hg, k1, k2, k3, k4⟩
  · exact ⟨none, 0, by rw [h1, h2], fun k => by omega⟩
  · refine ⟨some ⟨g, 0, none⟩, cap, hv, fun k => ⟨g, rfl, (Array.getElem?_eq_some_iff.1 hg).1, fun i e he => ?_⟩⟩
    have hcell : ∀ j u, (lfl es)[j]? = some u → w.cell? ⟨g, j, none⟩ = some u := fun j u hu => by
      rw [← k4, List.getElem?_take] at hu
      split at hu
      · simp only [World.cell?, hg]; simpa using hu
      · cases hu
    have hp := h.p e (List.mem_of_getElem? he)
    obtain ⟨gp, cp, q1, -, q3, q4⟩ := own_row hp.1 hp.2
    exact ⟨hcell _ _ (lfl_get es i e he).1, hcell _ _ (lfl_get es i e he).2, gp, cp, q1, q3, q4⟩
theorem wp_frameV {P : Program} {c : Code} {Q : Exit → Act → World → Prop} {tmps : Array Value} {w : World} {n : Nat} (hn : tmps.size = n) (h : ∀ g : Nat → Value, (∀ i, i < n → g i = tmps.getD i undef) → c.wp P Q ⟨((List.range n).map g).toArray, []⟩ w) : c.wp P Q ⟨tmps, []⟩ w := by
  rw [(Is.start _ hn).whole]
  exact h _ fun i hi => rfl
theorem flat_lenV {ss : List Sg} (h : chk ss = 0) : (flatL ss).length ≤ 1000 ∧ ∀ l ∈ flatL ss, l.ps.length ≤ 1000000 := by
  have key : ∀ k, k ≤ ss.length → (flatL (ss.take k)).length ≤ k ∧ ∀ l ∈ flatL (ss.take k), l.ps.length ≤ 512 * k := by
    intro k
    induction k with
    | zero => intro _; exact ⟨Nat.le_refl _, fun l hl => by simp [flatL] at hl⟩
    | succ k ih =>
      intro hk
      obtain ⟨i1, i2⟩ := ih (by omega)
      obtain ⟨ls, l, e1, e2⟩ := flat_ok h (k + 1) hk (by omega)
      have hkl : k < ss.length := by omega
      by_cases h1 : ss[k].k = 1
      · rw [flatL_take hkl, addL_move _ h1]
        refine ⟨by simp; omega, fun l hl => ?_⟩
        rcases List.mem_append.1 hl with hl | hl
        · have := i2 l hl; omega
        · rw [List.mem_singleton] at hl; subst hl; show 1 ≤ _; omega
      · have hk0 : 0 < k := by
          rcases Nat.eq_zero_or_pos k with e | e
          · subst e; exact absurd (chk_first h (by omega)) h1
          · exact e
        obtain ⟨ls0, l0, f1, f2⟩ := flat_ok h k (by omega) hk0
        rw [flatL_take hkl, f1, addL_last _ _ h1] at e1 ⊢
        rw [f1] at i1 i2
        have e3 : updL l0 ss[k] = l := (List.append_inj_right' e1 rfl) |> fun h => by simpa using h
        refine ⟨by simp at i1 ⊢; omega, fun x hx => ?_⟩
        rcases List.mem_append.1 hx with hx | hx
        · have := i2 x (List.mem_append_left _ hx); omega
        · rw [List.mem_singleton] at hx; subst hx; rw [e3]; exact e2.n
  have hl := chk_le h
  have := key ss.length (Nat.le_refl _)
  rw [List.take_of_length_le (Nat.le_refl _)] at this
  exact ⟨by omega, fun l hx => by have := this.2 l hx; omega⟩
/-- What the statement compares: a line's point and its shift. -/
theorem apply_sh {dx dy : Int} {p : P2} (h : Sml dx dy) (hp : In3 p) (hq : In3 (p.sh dx dy)) (w : World) :
    Calls Try.prog 20 #[mx 4096 0 0 4096 (4096 * dx) (4096 * dy), ptv p] w fun e w' => e = .returned (.tuple #[ptv (p.sh dx dy), .int .i64 0]) ∧ Below w.heap.size w w' := by
  have := apply_any (shm dx dy) p.x p.y w
  rw [(ap_sh h hp).1 hq] at this
  exact this
theorem flat_in' {ss : List Sg} (h : chk ss = 0) : ∀ l ∈ flatL ss, ∀ p ∈ l.ps, In3 p := fun l hl => by
  have := flat_in h ss.length (Nat.le_refl _)
  rw [List.take_of_length_le (Nat.le_refl _)] at this
  exact (this l hl).2
theorem flatL_sh' {dx dy : Int} {ss : List Sg} (h : chk ss = 0) : flatL (ss.map (sh dx dy)) = (flatL ss).map (shLn dx dy) := by
  have := flatL_sh (dx := dx) (dy := dy) h ss.length (Nat.le_refl _)
  rw [List.take_of_length_le (by simp), List.take_of_length_le (Nat.le_refl _)] at this
  exact this

end Go.Proofs.Ytcdedefhofkbhaa
