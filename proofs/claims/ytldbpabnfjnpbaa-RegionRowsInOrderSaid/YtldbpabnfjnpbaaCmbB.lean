/- The reference's Combined: its beginning. -/
import Derived.Test.YtldbpabnfjnpbaaCombR
import Derived.Test.YtldbpabnfjnpbaaRHas
namespace Go.Proofs.Ytldbpabnfjnpbaa
open Go Go.RowKit
set_option linter.unusedVariables false
set_option linter.unusedSimpArgs false

theorem run_lit0 {ρ : Operand → Value} {dst : Option Tmp} {ty : TypeId} {pos : String} {af : Array Edge} {w : World} {gd : Option (Nat × Bool)} :
    (execOp ρ { dst := dst, op := .buildSlice 22 0 #[], type := ty, pos := pos, after := af, guard := gd }).run Try.prog w = .ok (.value (.slice (some ⟨w.heap.size, 0, none⟩) 0 0)) (w.alloc (.cells #[] 37)) := by
  go_simp
theorem OwnR.lit0 (w : World) : OwnR (w.alloc (.cells #[] 37)) w.heap.size (.slice (some ⟨w.heap.size, 0, none⟩) 0 0) [] := World.ownsRow_lit w #[] 0 (Nat.le_refl _) (by decide) rfl
/-- append of runs that came in. -/
theorem append_runs {w : World} {B m c : Nat} {A : Option Addr} {v : Value} {xs ys : List Rn} (hB : B ≤ w.heap.size) (hown : OwnR w B v xs) (hm : m = ys.length) (hr : Runs w A ys) (hl : xs.length + m ≤ 5000000000) :
    ∃ v' w', (∀ ty, (Builtin.append_ #[22, 22] ty #[v, .slice A m c]).run Try.prog w = .ok v' w') ∧ OwnR w' B v' (xs ++ ys) ∧ Gr v v' w w' := by
  obtain ⟨i0, hi, hz0, hz1, hz2⟩ := info_parts infoRn
  subst hm
  cases A with
  | none =>
    have hy : ys = [] := by
      cases ys with
      | nil => rfl
      | cons y r => obtain ⟨a, h, -⟩ := hr (by simp); cases h
    subst hy
    refine ⟨v, w, fun ty => ?_, by simpa using hown, Gr.refl _ _⟩
    rcases hown.2 with ⟨rfl, h0⟩ | ⟨g, cap, cur, rfl, hbg, hg, hnc, hcm, hcs, htake⟩
    · simp [Builtin.append_, run_underlying Try.underlying22, sizeOf, typeInfo, hi, Builtin.lenOf, Builtin.firstCells]
    · simp [Builtin.append_, run_underlying Try.underlying22, sizeOf, typeInfo, hi, Builtin.lenOf, Builtin.firstCells, hnc, storeCells]
  | some a =>
    have hcells : ∀ j u, (flat ys)[j]? = some u → w.cell? (a.add j) = some u := fun j u hu => by
      have hj : j < ys.length * 3 := by
        rcases Nat.lt_or_ge j (ys.length * 3) with k | k
        · exact k
        · rw [List.getElem?_eq_none (by rw [flat_length]; exact k)] at hu; cases hu
      obtain ⟨q, r, rfl, hrr⟩ : ∃ q r, j = q * 3 + r ∧ r < 3 := ⟨j / 3, j % 3, by omega, by omega⟩
      have hq : q < ys.length := by omega
      have h2 := flat_get ys q r _ (List.getElem?_eq_getElem hq) hrr
      obtain ⟨a', ha, -, hc⟩ := hr (by intro e; subst e; simp at hq)
      cases ha
      have hat := hc q _ (List.getElem?_eq_getElem hq)
      rw [h2] at hu
      rw [← add_add']
      rcases (show r = 0 ∨ r = 1 ∨ r = 2 by omega) with rfl | rfl | rfl
      · exact hat.c0.trans hu
      · exact hat.c1.trans hu
      · exact hat.c2.trans hu
    obtain ⟨v', w', h1, h2, h3, h4, h5⟩ := run_append_own_at (P := Try.prog) w B 22 0 37 i0 _ 3 24 Try.underlying22 hi hz0 hz1 hz2 rfl (by decide) v xs.length (flat xs) hown
      a ys.length c (flat ys) (flat_length ys) hcells (fun u hu => flat_int ys u hu) (by unfold maxLen; omega) (by omega) hB
    refine ⟨v', w', fun ty => h1, ?_, ⟨h3, fun k hk => ?_⟩⟩
    · unfold OwnR
      rw [flat_append, List.length_append]
      exact h2
    · rcases h5 with h5 | h5
      · exact .inl (h5 ▸ hk)
      · rw [h5] at hk
        have : w.heap.size = k := by simpa using hk
        exact .inr (by omega)

end Go.Proofs.Ytldbpabnfjnpbaa
