/- What the tests of the reference return, and the makers of maps in package affine. -/
import Derived.Test.YtbdpjdhnmllkiaaDoorAfChk
import Derived.Deep.Cut
namespace Go.Proofs.YtbdpjdhnmllkiaaDoor.Af
open Go Go.RowKit
set_option linter.unusedVariables false

theorem in_yes (x lo hi : Int) (w : World) (h : lo ≤ x ∧ x ≤ hi) :
    Calls Tryd.prog 54 #[.int .i64 x, .int .i64 lo, .int .i64 hi] w fun e w' => e = .returned (.bool true) ∧ w = w' := by
  obtain ⟨h1, h2⟩ := h
  go_enter Tryd.func54, Tryd.ntmps54
  go_wp2
  go_ret
  exact ⟨rfl, rfl⟩

theorem in_no (x lo hi : Int) (w : World) (h : ¬ (lo ≤ x ∧ x ≤ hi)) :
    Calls Tryd.prog 54 #[.int .i64 x, .int .i64 lo, .int .i64 hi] w fun e w' => e = .returned (.bool false) ∧ w = w' := by
  by_cases h1 : x < lo
  · clear h
    go_enter Tryd.func54, Tryd.ntmps54
    go_wp2
    go_ret
    exact ⟨rfl, rfl⟩
  · have h2 : hi < x := by omega
    clear h
    go_enter Tryd.func54, Tryd.ntmps54
    go_wp2
    go_ret
    refine ⟨?_, rfl⟩
    show Ending.returned (.bool (decide (x ≤ hi))) = _
    rw [decide_eq_false (by omega)]

theorem mchk_ok (a b c d e f : Int) (w : World) (h0 : (-1048576 ≤ a ∧ a ≤ 1048576)) (h1 : (-1048576 ≤ b ∧ b ≤ 1048576)) (h2 : (-1048576 ≤ c ∧ c ≤ 1048576)) (h3 : (-1048576 ≤ d ∧ d ≤ 1048576)) (h4 : (-268435456 ≤ e ∧ e ≤ 268435456)) (h5 : (-268435456 ≤ f ∧ f ≤ 268435456)) :
    Calls Tryd.prog 47 #[mx a b c d e f] w fun r w' => r = .returned (.int .i64 0) ∧ Below w.heap.size w w' := by
  have H0 := hid h0
  have H1 := hid h1
  have H2 := hid h2
  have H3 := hid h3
  have H4 := hid h4
  have H5 := hid h5
  clear h0 h1 h2 h3 h4 h5
  go_enter Tryd.func47, Tryd.ntmps47
  go_wp2_with fail
  (with_reducible refine (in_yes a _ _ _ H0.out).mono ?_); rintro r w1 ⟨rfl, rfl⟩
  go_wp2_with fail
  (with_reducible refine (in_yes b _ _ _ H1.out).mono ?_); rintro r w1 ⟨rfl, rfl⟩
  go_wp2_with fail
  (with_reducible refine (in_yes c _ _ _ H2.out).mono ?_); rintro r w1 ⟨rfl, rfl⟩
  go_wp2_with fail
  (with_reducible refine (in_yes d _ _ _ H3.out).mono ?_); rintro r w1 ⟨rfl, rfl⟩
  go_wp2_with fail
  (with_reducible refine (in_yes e _ _ _ H4.out).mono ?_); rintro r w1 ⟨rfl, rfl⟩
  go_wp2_with fail
  (with_reducible refine (in_yes f _ _ _ H5.out).mono ?_); rintro r w1 ⟨rfl, rfl⟩
  go_wp2_with fail
  go_ret
  exact ⟨rfl, by repeat (first | exact Below.refl _ _ | apply below_drewN | apply Below.drew | apply below_alloc)⟩

theorem mchk_0 (a b c d e f : Int) (w : World) (h0 : ¬ (-1048576 ≤ a ∧ a ≤ 1048576)) :
    Calls Tryd.prog 47 #[mx a b c d e f] w fun r w' => r = .returned (.int .i64 3) ∧ Below w.heap.size w w' := by
  have H0 := hid h0
  clear h0
  go_enter Tryd.func47, Tryd.ntmps47
  go_wp2_with fail
  (with_reducible refine (in_no a _ _ _ H0.out).mono ?_); rintro r w1 ⟨rfl, rfl⟩
  go_wp2_with fail
  go_ret
  exact ⟨rfl, by repeat (first | exact Below.refl _ _ | apply below_drewN | apply Below.drew | apply below_alloc)⟩

theorem mchk_1 (a b c d e f : Int) (w : World) (h0 : (-1048576 ≤ a ∧ a ≤ 1048576)) (h1 : ¬ (-1048576 ≤ b ∧ b ≤ 1048576)) :
    Calls Tryd.prog 47 #[mx a b c d e f] w fun r w' => r = .returned (.int .i64 3) ∧ Below w.heap.size w w' := by
  have H0 := hid h0
  have H1 := hid h1
  clear h0 h1
  go_enter Tryd.func47, Tryd.ntmps47
  go_wp2_with fail
  (with_reducible refine (in_yes a _ _ _ H0.out).mono ?_); rintro r w1 ⟨rfl, rfl⟩
  go_wp2_with fail
  (with_reducible refine (in_no b _ _ _ H1.out).mono ?_); rintro r w1 ⟨rfl, rfl⟩
  go_wp2_with fail
  go_ret
  exact ⟨rfl, by repeat (first | exact Below.refl _ _ | apply below_drewN | apply Below.drew | apply below_alloc)⟩

theorem mchk_2 (a b c d e f : Int) (w : World) (h0 : (-1048576 ≤ a ∧ a ≤ 1048576)) (h1 : (-1048576 ≤ b ∧ b ≤ 1048576)) (h2 : ¬ (-1048576 ≤ c ∧ c ≤ 1048576)) :
    Calls Tryd.prog 47 #[mx a b c d e f] w fun r w' => r = .returned (.int .i64 3) ∧ Below w.heap.size w w' := by
  have H0 := hid h0
  have H1 := hid h1
  have H2 := hid h2
  clear h0 h1 h2
  go_enter Tryd.func47, Tryd.ntmps47
  go_wp2_with fail
  (with_reducible refine (in_yes a _ _ _ H0.out).mono ?_); rintro r w1 ⟨rfl, rfl⟩
  go_wp2_with fail
  (with_reducible refine (in_yes b _ _ _ H1.out).mono ?_); rintro r w1 ⟨rfl, rfl⟩
  go_wp2_with fail
  (with_reducible refine (in_no c _ _ _ H2.out).mono ?_); rintro r w1 ⟨rfl, rfl⟩
  go_wp2_with fail
  go_ret
  exact ⟨rfl, by repeat (first | exact Below.refl _ _ | apply below_drewN | apply Below.drew | apply below_alloc)⟩

theorem mchk_3 (a b c d e f : Int) (w : World) (h0 : (-1048576 ≤ a ∧ a ≤ 1048576)) (h1 : (-1048576 ≤ b ∧ b ≤ 1048576)) (h2 : (-1048576 ≤ c ∧ c ≤ 1048576)) (h3 : ¬ (-1048576 ≤ d ∧ d ≤ 1048576)) :
    Calls Tryd.prog 47 #[mx a b c d e f] w fun r w' => r = .returned (.int .i64 3) ∧ Below w.heap.size w w' := by
  have H0 := hid h0
  have H1 := hid h1
  have H2 := hid h2
  have H3 := hid h3
  clear h0 h1 h2 h3
  go_enter Tryd.func47, Tryd.ntmps47
  go_wp2_with fail
  (with_reducible refine (in_yes a _ _ _ H0.out).mono ?_); rintro r w1 ⟨rfl, rfl⟩
  go_wp2_with fail
  (with_reducible refine (in_yes b _ _ _ H1.out).mono ?_); rintro r w1 ⟨rfl, rfl⟩
  go_wp2_with fail
  (with_reducible refine (in_yes c _ _ _ H2.out).mono ?_); rintro r w1 ⟨rfl, rfl⟩
  go_wp2_with fail
  (with_reducible refine (in_no d _ _ _ H3.out).mono ?_); rintro r w1 ⟨rfl, rfl⟩
  go_wp2_with fail
  go_ret
  exact ⟨rfl, by repeat (first | exact Below.refl _ _ | apply below_drewN | apply Below.drew | apply below_alloc)⟩

theorem mchk_4 (a b c d e f : Int) (w : World) (h0 : (-1048576 ≤ a ∧ a ≤ 1048576)) (h1 : (-1048576 ≤ b ∧ b ≤ 1048576)) (h2 : (-1048576 ≤ c ∧ c ≤ 1048576)) (h3 : (-1048576 ≤ d ∧ d ≤ 1048576)) (h4 : ¬ (-268435456 ≤ e ∧ e ≤ 268435456)) :
    Calls Tryd.prog 47 #[mx a b c d e f] w fun r w' => r = .returned (.int .i64 3) ∧ Below w.heap.size w w' := by
  have H0 := hid h0
  have H1 := hid h1
  have H2 := hid h2
  have H3 := hid h3
  have H4 := hid h4
  clear h0 h1 h2 h3 h4
  go_enter Tryd.func47, Tryd.ntmps47
  go_wp2_with fail
  (with_reducible refine (in_yes a _ _ _ H0.out).mono ?_); rintro r w1 ⟨rfl, rfl⟩
  go_wp2_with fail
  (with_reducible refine (in_yes b _ _ _ H1.out).mono ?_); rintro r w1 ⟨rfl, rfl⟩
  go_wp2_with fail
  (with_reducible refine (in_yes c _ _ _ H2.out).mono ?_); rintro r w1 ⟨rfl, rfl⟩
  go_wp2_with fail
  (with_reducible refine (in_yes d _ _ _ H3.out).mono ?_); rintro r w1 ⟨rfl, rfl⟩
  go_wp2_with fail
  (with_reducible refine (in_no e _ _ _ H4.out).mono ?_); rintro r w1 ⟨rfl, rfl⟩
  go_wp2_with fail
  go_ret
  exact ⟨rfl, by repeat (first | exact Below.refl _ _ | apply below_drewN | apply Below.drew | apply below_alloc)⟩

theorem mchk_5 (a b c d e f : Int) (w : World) (h0 : (-1048576 ≤ a ∧ a ≤ 1048576)) (h1 : (-1048576 ≤ b ∧ b ≤ 1048576)) (h2 : (-1048576 ≤ c ∧ c ≤ 1048576)) (h3 : (-1048576 ≤ d ∧ d ≤ 1048576)) (h4 : (-268435456 ≤ e ∧ e ≤ 268435456)) (h5 : ¬ (-268435456 ≤ f ∧ f ≤ 268435456)) :
    Calls Tryd.prog 47 #[mx a b c d e f] w fun r w' => r = .returned (.int .i64 3) ∧ Below w.heap.size w w' := by
  have H0 := hid h0
  have H1 := hid h1
  have H2 := hid h2
  have H3 := hid h3
  have H4 := hid h4
  have H5 := hid h5
  clear h0 h1 h2 h3 h4 h5
  go_enter Tryd.func47, Tryd.ntmps47
  go_wp2_with fail
  (with_reducible refine (in_yes a _ _ _ H0.out).mono ?_); rintro r w1 ⟨rfl, rfl⟩
  go_wp2_with fail
  (with_reducible refine (in_yes b _ _ _ H1.out).mono ?_); rintro r w1 ⟨rfl, rfl⟩
  go_wp2_with fail
  (with_reducible refine (in_yes c _ _ _ H2.out).mono ?_); rintro r w1 ⟨rfl, rfl⟩
  go_wp2_with fail
  (with_reducible refine (in_yes d _ _ _ H3.out).mono ?_); rintro r w1 ⟨rfl, rfl⟩
  go_wp2_with fail
  (with_reducible refine (in_yes e _ _ _ H4.out).mono ?_); rintro r w1 ⟨rfl, rfl⟩
  go_wp2_with fail
  (with_reducible refine (in_no f _ _ _ H5.out).mono ?_); rintro r w1 ⟨rfl, rfl⟩
  go_wp2_with fail
  go_ret
  exact ⟨rfl, by repeat (first | exact Below.refl _ _ | apply below_drewN | apply Below.drew | apply below_alloc)⟩

theorem mchk_any (a b c d e f : Int) (w : World) :
    Calls Tryd.prog 47 #[mx a b c d e f] w fun r w' => r = .returned (.int .i64 (errM a b c d e f)) ∧ Below w.heap.size w w' := by
  by_cases h0 : -1048576 ≤ a ∧ a ≤ 1048576
  · by_cases h1 : -1048576 ≤ b ∧ b ≤ 1048576
    · by_cases h2 : -1048576 ≤ c ∧ c ≤ 1048576
      · by_cases h3 : -1048576 ≤ d ∧ d ≤ 1048576
        · by_cases h4 : -268435456 ≤ e ∧ e ≤ 268435456
          · by_cases h5 : -268435456 ≤ f ∧ f ≤ 268435456
            · rw [errM_good ⟨wi4.2 ⟨h0, h1, h2, h3⟩, wi2.2 ⟨h4, h5⟩⟩]; exact mchk_ok a b c d e f w h0 h1 h2 h3 h4 h5
            · rw [errM_bad fun h => h5 (wi2.1 h.2).2]; exact mchk_5 a b c d e f w h0 h1 h2 h3 h4 h5
          · rw [errM_bad fun h => h4 (wi2.1 h.2).1]; exact mchk_4 a b c d e f w h0 h1 h2 h3 h4
        · rw [errM_bad fun h => h3 (wi4.1 h.1).2.2.2]; exact mchk_3 a b c d e f w h0 h1 h2 h3
      · rw [errM_bad fun h => h2 (wi4.1 h.1).2.2.1]; exact mchk_2 a b c d e f w h0 h1 h2
    · rw [errM_bad fun h => h1 (wi4.1 h.1).2.1]; exact mchk_1 a b c d e f w h0 h1
  · rw [errM_bad fun h => h0 (wi4.1 h.1).1]; exact mchk_0 a b c d e f w h0

theorem coord_any (r : Bool) (x y : Int) (w : World) (h : r = true ↔ Wi 32767 [x, y]) :
    Calls Tryd.prog 33 #[pt x y] w fun e w' => e = .returned (.bool r) ∧ Below w.heap.size w w' := by
  by_cases h0 : -32767 ≤ x ∧ x ≤ 32767
  · by_cases h1 : -32767 ≤ y ∧ y ≤ 32767
    · obtain rfl : r = true := h.2 (wi2.2 ⟨h0, h1⟩)
      have H0 := hid h0
      have H1 := hid h1
      clear h h0 h1
      go_enter Tryd.func33, Tryd.ntmps33
      go_wp2_with fail
      (with_reducible refine (in_yes x _ _ _ H0.out).mono ?_); rintro r w1 ⟨rfl, rfl⟩
      go_wp2_with fail
      (with_reducible refine (in_yes y _ _ _ H1.out).mono ?_); rintro r w1 ⟨rfl, rfl⟩
      go_wp2_with fail
      go_ret
      exact ⟨rfl, by repeat (first | exact Below.refl _ _ | apply below_drewN | apply Below.drew | apply below_alloc)⟩
    · obtain rfl : r = false := by
        cases r
        · rfl
        · exact absurd (wi2.1 (h.1 rfl)).2 h1
      have H0 := hid h0
      have H1 := hid h1
      clear h h0 h1
      go_enter Tryd.func33, Tryd.ntmps33
      go_wp2_with fail
      (with_reducible refine (in_yes x _ _ _ H0.out).mono ?_); rintro r w1 ⟨rfl, rfl⟩
      go_wp2_with fail
      (with_reducible refine (in_no y _ _ _ H1.out).mono ?_); rintro r w1 ⟨rfl, rfl⟩
      go_wp2_with fail
      go_ret
      exact ⟨rfl, by repeat (first | exact Below.refl _ _ | apply below_drewN | apply Below.drew | apply below_alloc)⟩
  · obtain rfl : r = false := by
      cases r
      · rfl
      · exact absurd (wi2.1 (h.1 rfl)).1 h0
    have H0 := hid h0
    clear h h0
    go_enter Tryd.func33, Tryd.ntmps33
    go_wp2_with fail
    (with_reducible refine (in_no x _ _ _ H0.out).mono ?_); rintro r w1 ⟨rfl, rfl⟩
    go_wp2_with fail
    go_ret
    exact ⟨rfl, by repeat (first | exact Below.refl _ _ | apply below_drewN | apply Below.drew | apply below_alloc)⟩

theorem shift_ok (x y : Int) (w : World) (h : Wi 32767 [x, y]) :
    Calls Tryd.prog 21 #[.int .i64 x, .int .i64 y] w fun e w' => e = .returned (.tuple #[mx 4096 0 0 4096 (4096 * x) (4096 * y), .int .i64 0]) ∧ Below w.heap.size w w' := by
  have H := hid h
  have HV := hid (Var.new w #[.int .i64 0, .int .i64 0, .int .i64 0, .int .i64 0, .int .i64 0, .int .i64 0] 41 _ rfl)
  have HB := hid (below_alloc (Below.refl _ w) (.cells #[.int .i64 0, .int .i64 0, .int .i64 0, .int .i64 0, .int .i64 0, .int .i64 0] 41))
  obtain ⟨⟨x1, x2⟩, y1, y2⟩ := wi2.1 h
  clear h
  go_enter Tryd.func21, Tryd.ntmps21
  go_wp2_with fail
  (with_reducible refine (within2 true 32767 x y _ _ _ (by omega) (iff_of_true rfl H.out) (Var.new _ _ _ _ (by simp)).lies2).mono ?_); rintro r w1 ⟨rfl, hw⟩
  have HV1 := hid (show Var w1 _ _ _ by rw [← hw]; exact HV.out.alloc _)
  have HB1 := hid (show Below _ _ w1 by rw [← hw]; exact below_alloc HB.out _)
  clear hw HV HB
  obtain ⟨p0, p1, p2, p3, p4, p5, pf⟩ := HV1.out.read6
  go_wp2_with fail
  exact ret6n Tryd.results21 rfl rfl HV1.out.set6 ⟨rfl, below_set6 HB1.out (by omega)⟩

theorem shift_no (x y : Int) (w : World) (h : ¬ Wi 32767 [x, y]) :
    Calls Tryd.prog 21 #[.int .i64 x, .int .i64 y] w fun e w' => e = .returned (.tuple #[mx 0 0 0 0 0 0, .int .i64 3]) ∧ Below w.heap.size w w' := by
  have H := hid h
  have HV := hid (Var.new w #[.int .i64 0, .int .i64 0, .int .i64 0, .int .i64 0, .int .i64 0, .int .i64 0] 41 _ rfl)
  have HB := hid (below_alloc (Below.refl _ w) (.cells #[.int .i64 0, .int .i64 0, .int .i64 0, .int .i64 0, .int .i64 0, .int .i64 0] 41))
  clear h
  go_enter Tryd.func21, Tryd.ntmps21
  go_wp2_with fail
  (with_reducible refine (within2 false 32767 x y _ _ _ (by omega) (iff_of_false Bool.false_ne_true H.out) (Var.new _ _ _ _ (by simp)).lies2).mono ?_); rintro r w1 ⟨rfl, hw⟩
  have HV1 := hid (show Var w1 _ _ _ by rw [← hw]; exact HV.out.alloc _)
  have HB1 := hid (show Below _ _ w1 by rw [← hw]; exact below_alloc HB.out _)
  clear hw HV HB
  obtain ⟨p0, p1, p2, p3, p4, p5, pf⟩ := HV1.out.read6
  go_wp2_with fail
  exact ret6n Tryd.results21 rfl rfl HV1.out.set6 ⟨rfl, below_set6 HB1.out (by omega)⟩

end Go.Proofs.YtbdpjdhnmllkiaaDoor.Af
