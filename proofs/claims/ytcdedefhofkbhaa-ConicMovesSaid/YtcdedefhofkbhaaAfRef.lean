/- What the tests of the reference return, and the makers of maps in package affine. -/
import Derived.Test.YtcdedefhofkbhaaAfChk
import Derived.Deep.Cut
namespace Go.Proofs.Ytcdedefhofkbhaa.Af
open Go Go.RowKit
set_option linter.unusedVariables false

theorem in_yes (x lo hi : Int) (w : World) (h : lo ≤ x ∧ x ≤ hi) :
    Calls Try.prog 39 #[.int .i64 x, .int .i64 lo, .int .i64 hi] w fun e w' => e = .returned (.bool true) ∧ w = w' := by
  obtain ⟨h1, h2⟩ := h
  go_enter Try.func39, Try.ntmps39
  go_wp2
  go_ret
  exact ⟨rfl, rfl⟩

theorem in_no (x lo hi : Int) (w : World) (h : ¬ (lo ≤ x ∧ x ≤ hi)) :
    Calls Try.prog 39 #[.int .i64 x, .int .i64 lo, .int .i64 hi] w fun e w' => e = .returned (.bool false) ∧ w = w' := by
  by_cases h1 : x < lo
  · clear h
    go_enter Try.func39, Try.ntmps39
    go_wp2
    go_ret
    exact ⟨rfl, rfl⟩
  · have h2 : hi < x := by omega
    clear h
    go_enter Try.func39, Try.ntmps39
    go_wp2
    go_ret
    refine ⟨?_, rfl⟩
    show Ending.returned (.bool (decide (x ≤ hi))) = _
    rw [decide_eq_false (by omega)]

theorem coord_any (r : Bool) (x y : Int) (w : World) (h : r = true ↔ Wi 32767 [x, y]) :
    Calls Try.prog 23 #[pt x y] w fun e w' => e = .returned (.bool r) ∧ Below w.heap.size w w' := by
  by_cases h0 : -32767 ≤ x ∧ x ≤ 32767
  · by_cases h1 : -32767 ≤ y ∧ y ≤ 32767
    · obtain rfl : r = true := h.2 (wi2.2 ⟨h0, h1⟩)
      have H0 := hid h0
      have H1 := hid h1
      clear h h0 h1
      go_enter Try.func23, Try.ntmps23
      go_wp2_with fail
      (with_reducible refine (in_yes x _ _ _ H0.out).mono ?_); rintro r w1 ⟨rfl, rfl⟩
      go_wp2_with fail
      (with_reducible refine (in_yes y _ _ _ H1.out).mono ?_); rintro r w1 ⟨rfl, rfl⟩
      go_wp2_with fail
      go_ret
      exact ⟨rfl, by repeat (first | exact Below.refl _ _ | apply below_drewN | apply Below.drew | apply below_alloc)⟩
    · obtain rfl : r = false := by
        cases r
        · rfl
        · exact absurd (wi2.1 (h.1 rfl)).2 h1
      have H0 := hid h0
      have H1 := hid h1
      clear h h0 h1
      go_enter Try.func23, Try.ntmps23
      go_wp2_with fail
      (with_reducible refine (in_yes x _ _ _ H0.out).mono ?_); rintro r w1 ⟨rfl, rfl⟩
      go_wp2_with fail
      (with_reducible refine (in_no y _ _ _ H1.out).mono ?_); rintro r w1 ⟨rfl, rfl⟩
      go_wp2_with fail
      go_ret
      exact ⟨rfl, by repeat (first | exact Below.refl _ _ | apply below_drewN | apply Below.drew | apply below_alloc)⟩
  · obtain rfl : r = false := by
      cases r
      · rfl
      · exact absurd (wi2.1 (h.1 rfl)).1 h0
    have H0 := hid h0
    clear h h0
    go_enter Try.func23, Try.ntmps23
    go_wp2_with fail
    (with_reducible refine (in_no x _ _ _ H0.out).mono ?_); rintro r w1 ⟨rfl, rfl⟩
    go_wp2_with fail
    go_ret
    exact ⟨rfl, by repeat (first | exact Below.refl _ _ | apply below_drewN | apply Below.drew | apply below_alloc)⟩

theorem shift_ok (x y : Int) (w : World) (h : Wi 32767 [x, y]) :
    Calls Try.prog 18 #[.int .i64 x, .int .i64 y] w fun e w' => e = .returned (.tuple #[mx 4096 0 0 4096 (4096 * x) (4096 * y), .int .i64 0]) ∧ Below w.heap.size w w' := by
  have H := hid h
  have HV := hid (Var.new w #[.int .i64 0, .int .i64 0, .int .i64 0, .int .i64 0, .int .i64 0, .int .i64 0] 48 _ rfl)
  have HB := hid (below_alloc (Below.refl _ w) (.cells #[.int .i64 0, .int .i64 0, .int .i64 0, .int .i64 0, .int .i64 0, .int .i64 0] 48))
  obtain ⟨⟨x1, x2⟩, y1, y2⟩ := wi2.1 h
  clear h
  go_enter Try.func18, Try.ntmps18
  go_wp2_with fail
  (with_reducible refine (within2 true 32767 x y _ _ _ (by omega) (iff_of_true rfl H.out) (Var.new _ _ _ _ (by simp)).lies2).mono ?_); rintro r w1 ⟨rfl, hw⟩
  have HV1 := hid (show Var w1 _ _ _ by rw [← hw]; exact HV.out.alloc _)
  have HB1 := hid (show Below _ _ w1 by rw [← hw]; exact below_alloc HB.out _)
  clear hw HV HB
  obtain ⟨p0, p1, p2, p3, p4, p5, pf⟩ := HV1.out.read6
  go_wp2_with fail
  exact ret6n Try.results18 rfl rfl HV1.out.set6 ⟨rfl, below_set6 HB1.out (by omega)⟩

theorem shift_no (x y : Int) (w : World) (h : ¬ Wi 32767 [x, y]) :
    Calls Try.prog 18 #[.int .i64 x, .int .i64 y] w fun e w' => e = .returned (.tuple #[mx 0 0 0 0 0 0, .int .i64 3]) ∧ Below w.heap.size w w' := by
  have H := hid h
  have HV := hid (Var.new w #[.int .i64 0, .int .i64 0, .int .i64 0, .int .i64 0, .int .i64 0, .int .i64 0] 48 _ rfl)
  have HB := hid (below_alloc (Below.refl _ w) (.cells #[.int .i64 0, .int .i64 0, .int .i64 0, .int .i64 0, .int .i64 0, .int .i64 0] 48))
  clear h
  go_enter Try.func18, Try.ntmps18
  go_wp2_with fail
  (with_reducible refine (within2 false 32767 x y _ _ _ (by omega) (iff_of_false Bool.false_ne_true H.out) (Var.new _ _ _ _ (by simp)).lies2).mono ?_); rintro r w1 ⟨rfl, hw⟩
  have HV1 := hid (show Var w1 _ _ _ by rw [← hw]; exact HV.out.alloc _)
  have HB1 := hid (show Below _ _ w1 by rw [← hw]; exact below_alloc HB.out _)
  clear hw HV HB
  obtain ⟨p0, p1, p2, p3, p4, p5, pf⟩ := HV1.out.read6
  go_wp2_with fail
  exact ret6n Try.results18 rfl rfl HV1.out.set6 ⟨rfl, below_set6 HB1.out (by omega)⟩

end Go.Proofs.Ytcdedefhofkbhaa.Af
