/- What the helpers curves and quarter of the statements return. -/
import Derived.Test.YtcdedefhofkbhaaArcs
namespace Go.Proofs.Ytcdedefhofkbhaa
open Go Go.RowKit
set_option linter.unusedVariables false
set_option linter.unusedSimpArgs false

theorem last_is {p : P2} {s : Sg} (h : ptE p s = 0) : ∃ m, (ptP p s).length = m + 1 ∧ m + 1 ≤ 512 ∧ (ptP p s)[m]? = some ⟨s.x, s.y⟩ := by
  unfold ptP replP
  rw [if_pos h]
  rcases (ptE_good h).1 with hk | ⟨hk, hc⟩
  · rw [if_pos hk]; exact ⟨0, rfl, by omega, rfl⟩
  · rw [if_neg (by omega)]
    have hd := dv_bd (cuOf p s)
    have hl := pts_last (c := cuOf p s) hc.w
    have hn := pts_length (cuOf p s)
    rw [List.getLast?_eq_getElem?, hn] at hl
    exact ⟨(cuOf p s).dv - 1, by rw [hn]; omega, by omega, hl⟩
theorem quarter_any (w : World) : Calls Try.prog 38 #[] w fun e w' => e = .returned (seg (arcS 100)) ∧ Below w.heap.size w w' := by
  go_enter Try.func38, Try.ntmps38
  go_wp2
  exact ret6 (s := arcS 100) Try.results38 rfl (Var.new w _ _ w.heap.size rfl) ⟨rfl, below_alloc (Below.refl _ w) _⟩
theorem curves_any (w : World) : Calls Try.prog 21 #[] w fun e w' => e = .returned (.bool true) ∧ Below w.heap.size w w' := by
  have h := fun w => points_any ⟨100, 0⟩ (arcS 100) w
  rw [arc_e, arc_l] at h
  go_enter Try.func21, Try.ntmps21
  go_wp2_with fail
  (with_reducible refine (quarter_any w).mono ?_); rintro x0 w0 ⟨rfl, hb0⟩
  have HB0 := hid hb0
  clear hb0
  go_wp2_with fail
  (with_reducible refine (h _).mono ?_); rintro x0 w1 ⟨v, rfl, ho, hb⟩
  obtain ⟨g, c, rfl, -, -, hr⟩ := own_row ho (by decide)
  have HB := hid (below_next HB0.out hb)
  obtain ⟨c0, c1⟩ := hr 3 ⟨71, 71⟩ rfl
  rw [show arcL.length = 8 from rfl]
  clear h ho hb hr
  go_wp2_with fail
  go_ret
  exact ⟨rfl, HB.out⟩

end Go.Proofs.Ytcdedefhofkbhaa
