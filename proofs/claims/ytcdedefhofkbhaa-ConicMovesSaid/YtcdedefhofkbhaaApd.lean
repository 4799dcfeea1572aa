/- append of points onto a row of the call's own. -/
import Derived.Test.YtcdedefhofkbhaaArcs
import Derived.Test.YtcdedefhofkbhaaStepB
import Derived.Deep.AppendLies
namespace Go.Proofs.Ytcdedefhofkbhaa
open Go Go.RowKit
set_option linter.unusedVariables false
set_option linter.unusedSimpArgs false

theorem append_pts {w : World} {B n g m c : Nat} {v : Value} {xs ys : List P2} {ty : TypeId} (hB : B ≤ w.heap.size) (hown : w.ownsRow B 23 2 v n (pfl xs)) (hrow : Row2 w g ys) (hm : ys.length = m) (h0 : 0 < m) (hl : n + m ≤ 1000000) :
    ∃ g' c' w', (Builtin.append_ #[27, 27] ty #[v, .slice (some ⟨g, 0, none⟩) m c]).run Try.prog w = .ok (.slice (some ⟨g', 0, none⟩) (n + m) c') w' ∧
      w'.ownsRow B 23 2 (.slice (some ⟨g', 0, none⟩) (n + m) c') (n + m) (pfl (xs ++ ys)) ∧ w.grownBy w' v.ownBlock ∧ (v.ownBlock = some g' ∨ g' = w.heap.size) ∧ g' < w'.heap.size := by
  have e := infoPt
  cases hi : Try.prog.info? 23 with
  | none => rw [hi] at e; cases e
  | some i =>
    rw [hi] at e
    simp only [Option.map_some, Option.some.injEq, Prod.mk.injEq] at e
    rw [pfl_append]
    refine run_append_lies (P := Try.prog) w 27 ty B 23 i (pt 0 0) 2 16 (by kernel_rfl) hi e.1 e.2.1 e.2.2 rfl (by decide) v n (pfl xs) hown ⟨g, 0, none⟩ m c (pfl ys) (by rw [pfl_length, hm]) (fun j u hu => ?_) (pfl_int ys) h0 (by unfold maxLen; omega) (by omega) hB _ rfl
    rw [addr0]
    have hj : j < ys.length * 2 := by
      rcases Nat.lt_or_ge j (ys.length * 2) with k | k
      · exact k
      · rw [List.getElem?_eq_none (by rw [pfl_length]; exact k)] at hu; cases hu
    obtain ⟨q, r, rfl, hr⟩ : ∃ q r, j = q * 2 + r ∧ r < 2 := ⟨j / 2, j % 2, by omega, by omega⟩
    have hq : q < ys.length := by omega
    have h1 := hrow q _ (List.getElem?_eq_getElem hq)
    have h2 := pfl_get ys q _ (List.getElem?_eq_getElem hq)
    rcases (show r = 0 ∨ r = 1 by omega) with rfl | rfl
    · exact h1.1.trans (h2.1.symm.trans hu)
    · exact h1.2.trans (h2.2.symm.trans hu)
theorem own_next {w w' : World} {B size n : Nat} {e : TypeId} {v : Value} {xs : List Value} (h : w.ownsRow B e size v n xs) (hb : Below w.heap.size w w') : w'.ownsRow B e size v n xs := by
  refine ⟨h.1, ?_⟩
  rcases h.2 with h1 | ⟨g, cap, cur, hv, hB, hh, hr⟩
  · exact .inl h1
  · refine .inr ⟨g, cap, cur, hv, hB, (hb.block g ?_).trans hh, hr⟩
    rcases Nat.lt_or_ge g w.heap.size with k | k
    · exact k
    · rw [Array.getElem?_eq_none k] at hh; cases hh
theorem row_one {w : World} {p : P2} {g : Nat} (h : Var w g (pcel p) 23) : Row2 w g [p] := fun i q hq => by
  cases i with
  | zero =>
    obtain rfl : p = q := by simpa using hq
    exact ⟨h.cell 0, h.cell 1⟩
  | succ i => simp at hq
/-- append of one point, out of a literal's block. -/
theorem append_pt {w : World} {B n : Nat} {v : Value} {xs : List P2} {p : P2} {ty : TypeId} (hB : B ≤ w.heap.size) (hown : w.ownsRow B 23 2 v n (pfl xs)) (hl : n ≤ 100000) :
    ∃ v' w', (Builtin.append_ #[27, 27] ty #[v, .slice (some ⟨w.heap.size, 0, none⟩) 1 1]).run Try.prog (w.alloc (.cells (pcel p) 23)) = .ok v' w' ∧ w'.ownsRow B 23 2 v' (n + 1) (pfl (xs ++ [p])) ∧ Below B w w' := by
  have hown1 := hown.alloc (.cells (pcel p) 23)
  obtain ⟨g', c', w', h1, h2, h3, -, -⟩ := append_pts (m := 1) (c := 1) (ty := ty) (ys := [p]) (g := w.heap.size) (by simp; omega) hown1 (row_one (Var.new w (pcel p) 23 _ rfl)) rfl (by decide) (by omega)
  exact ⟨_, w', h1, h2, ((Below.refl B w).alloc hB _).grown h3 (by simp; omega) (fun k hk => (hown1.lt k hk).1)⟩

end Go.Proofs.Ytcdedefhofkbhaa
