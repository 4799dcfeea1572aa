/- The statement AffineInverseBack returns true for every map of six ints and every point of two ints, and changes no argument; there is no further condition. -/
import Derived.Test.YtdelhelfphblcaaRows
import Derived.WalkKit
import Derived.ProofKit
import Derived.OpenShut
import Derived.ChangeOld
import Derived.Below
import Derived.Test.YtdelhelfphblcaaOpen
import Derived.Test.YtdelhelfphblcaaTests
import Derived.Test.YtdelhelfphblcaaMaps
import Derived.Test.YtdelhelfphblcaaInv
import Derived.Test.YtdelhelfphblcaaArith
namespace Go.Proofs.Ytdelhelfphblcaa.affineInverseBack
open Go Go.ChangeShapes Go.WideShapes Go.ChangeAt Go.RowKit Go.Deep
set_option linter.unusedVariables false

theorem size_over {W : World} {u : Value} {X' X : Int} {g : Bool} {w : World} (h : Over W g w) (hu : u = .int .i64 X') (hX : X' = X) (hb : -4611686018427387904 ≤ X ∧ X ≤ 4611686018427387904) :
    Calls Try.prog 13 #[u] w fun r w' => r = .returned (.int .i64 (ab X)) ∧ Over W g w' := by
  subst hu hX
  exact (size_any _ w hb.1 hb.2).mono fun r w' ⟨hr, hw⟩ => ⟨hr, hw ▸ h⟩
theorem ab_bd {x m : Int} (h : -m ≤ x ∧ x ≤ m) : 0 ≤ ab x ∧ ab x ≤ m := by unfold ab; omega

theorem MapIs.ok {e0 a b c d e f : Int} {v0 v1 v2 v3 v4 v5 : Int} (h : MapIs e0 a b c d e f (mx v0 v1 v2 v3 v4 v5) 0) : e0 = 0 ∧ Good a b c d e f ∧ (v0 = a ∧ v1 = b ∧ v2 = c ∧ v3 = d ∧ v4 = e ∧ v5 = f) := by
  by_cases h0 : e0 = 0
  · by_cases hg : Good a b c d e f
    · exact ⟨h0, hg, by simpa [mx] using (h.good h0 hg).1⟩
    · exact absurd (h.over h0 hg).2 (by decide)
  · exact absurd (h.bad h0).2.symm h0
theorem PtIs.ok {e0 x y v0 v1 : Int} (h : PtIs e0 x y (pt v0 v1) 0) : e0 = 0 ∧ Wi 32767 [x, y] ∧ (v0 = x ∧ v1 = y) := by
  by_cases h0 : e0 = 0
  · by_cases hg : Wi 32767 [x, y]
    · exact ⟨h0, hg, by simpa [pt] using (h.good h0 hg).1⟩
    · exact absurd (h.over h0 hg).2 (by decide)
  · exact absurd (h.bad h0).2.symm h0
theorem if3 {p : Prop} [Decidable p] (h : (if p then (0 : Int) else 3) = 0) : p := by
  by_cases hp : p
  · exact hp
  · rw [if_neg hp] at h; exact absurd h (by decide)

theorem if38 {p q : Prop} [Decidable p] [Decidable q] (h : (if p then (if q then (8 : Int) else 0) else 3) = 0) : p ∧ ¬ q := by
  by_cases hp : p
  · by_cases hq : q
    · rw [if_pos hp, if_pos hq] at h; exact absurd h (by decide)
    · exact ⟨hp, hq⟩
  · rw [if_neg hp] at h; exact absurd h (by decide)

theorem early0 (a b c d e f x y o0 o1 o2 o3 o4 o5 r0 q0 q1 r1 z0 z1 r2 : Int) (w : World) (hT : InvIs a b c d e f (mx o0 o1 o2 o3 o4 o5) r0) (hQ : AppIs a b c d e f x y (pt q0 q1) r1) (hZ : AppIs o0 o1 o2 o3 o4 o5 q0 q1 (pt z0 z1) r2) (h0 : r0 ≠ 0) :
    Calls Try.prog 4 #[mx a b c d e f, pt x y] w fun r w' => r = .returned (.bool true) ∧ Below w.heap.size w w' := by
  have HT := hid hT
  have HQ := hid hQ
  have HZ := hid hZ
  clear hT hQ hZ
  have hz : (r0 == 0) = false := beq_false_of_ne h0
  clear h0
  have HM0 := hid ((Var.new w #[.int .i64 a, .int .i64 b, .int .i64 c, .int .i64 d, .int .i64 e, .int .i64 f] 23 _ rfl).alloc (.cells #[.int .i64 x, .int .i64 y] 25))
  have HP0 := hid (Var.new (w.alloc (.cells #[.int .i64 a, .int .i64 b, .int .i64 c, .int .i64 d, .int .i64 e, .int .i64 f] 23)) #[.int .i64 x, .int .i64 y] 25 (w.heap.size + 1) (by simp))
  have HB0 := hid (below_alloc (below_alloc (Below.refl _ w) (.cells #[.int .i64 a, .int .i64 b, .int .i64 c, .int .i64 d, .int .i64 e, .int .i64 f] 23)) (.cells #[.int .i64 x, .int .i64 y] 25))
  go_enter Try.func4, Try.ntmps4
  go_wp2_with fail
  (with_reducible refine (maps_any _).mono ?_); rintro e0 w1 ⟨rfl, hb⟩
  have HM1 := hid (HM0.out.next hb)
  have HP1 := hid (HP0.out.next hb)
  have HB1 := hid (below_next HB0.out hb)
  clear hb HM0 HP0 HB0
  obtain ⟨p10, p11, p12, p13, p14, p15, p1f⟩ := HM1.out.read6
  have t1 := HM1.out.lt
  go_wp2_with fail
  clear p10 p11 p12 p13 p14 p15 p1f t1
  (with_reducible refine (inv_any _ _ _ _ _ _ _ _ _ _ _ _ _ _ HT.out).mono ?_); rintro e0 w2 ⟨rfl, hb⟩
  have HM2 := hid (HM1.out.next hb)
  have HP2 := hid (HP1.out.next hb)
  have HB2 := hid (below_next HB1.out hb)
  clear hb HM1 HP1 HB1
  obtain ⟨p10, p11, p12, p13, p14, p15, p1f⟩ := HM2.out.read6
  have t1 := HM2.out.lt
  obtain ⟨p30, p31, p3f⟩ := HP2.out.read2
  have t3 := HP2.out.lt
  go_wp2_with fail
  clear p10 p11 p12 p13 p14 p15 p1f t1 p30 p31 p3f t3
  (with_reducible refine (app_any _ _ _ _ _ _ _ _ _ _ _ _ HQ.out).mono ?_); rintro e0 w3 ⟨rfl, hb⟩
  have HO3 := hid ((Var.new w2 #[.int .i64 o0, .int .i64 o1, .int .i64 o2, .int .i64 o3, .int .i64 o4, .int .i64 o5] 23 _ rfl).next hb)
  have HP3 := hid ((HP2.out.alloc _).next hb)
  have HB3 := hid (below_next (below_alloc HB2.out _) hb)
  clear hb HM2 HP2 HB2
  obtain ⟨p20, p21, p22, p23, p24, p25, p2f⟩ := HO3.out.read6
  have t2 := HO3.out.lt
  go_wp2_with fail
  clear p20 p21 p22 p23 p24 p25 p2f t2
  (with_reducible refine (app_any _ _ _ _ _ _ _ _ _ _ _ _ HZ.out).mono ?_); rintro e0 w5 ⟨rfl, hb⟩
  have HQ5 := hid (((Var.new w3 #[.int .i64 q0, .int .i64 q1] 25 _ rfl).next hb).alloc (.cells #[.int .i64 z0, .int .i64 z1] 25))
  have HO5 := hid (((HO3.out.alloc _).next hb).alloc (.cells #[.int .i64 z0, .int .i64 z1] 25))
  have HP5 := hid (((HP3.out.alloc _).next hb).alloc (.cells #[.int .i64 z0, .int .i64 z1] 25))
  have HZ5 := hid (Var.new w5 #[.int .i64 z0, .int .i64 z1] 25 _ rfl)
  have HB5 := hid (below_alloc (below_next (below_alloc HB3.out _) hb) (.cells #[.int .i64 z0, .int .i64 z1] 25))
  clear hb HO3 HP3 HB3
  go_wp2_with fail
  all_goals go_ret
  all_goals exact ⟨rfl, by repeat (first | exact HB5.out | apply below_drewN | apply Below.drew | apply below_alloc)⟩

theorem early1 (a b c d e f x y o0 o1 o2 o3 o4 o5 q0 q1 r1 z0 z1 r2 : Int) (w : World) (hT : InvIs a b c d e f (mx o0 o1 o2 o3 o4 o5) 0) (hQ : AppIs a b c d e f x y (pt q0 q1) r1) (hZ : AppIs o0 o1 o2 o3 o4 o5 q0 q1 (pt z0 z1) r2) (h0 : r1 ≠ 0) :
    Calls Try.prog 4 #[mx a b c d e f, pt x y] w fun r w' => r = .returned (.bool true) ∧ Below w.heap.size w w' := by
  have HT := hid hT
  have HQ := hid hQ
  have HZ := hid hZ
  clear hT hQ hZ
  have hz : (r1 == 0) = false := beq_false_of_ne h0
  clear h0
  have HM0 := hid ((Var.new w #[.int .i64 a, .int .i64 b, .int .i64 c, .int .i64 d, .int .i64 e, .int .i64 f] 23 _ rfl).alloc (.cells #[.int .i64 x, .int .i64 y] 25))
  have HP0 := hid (Var.new (w.alloc (.cells #[.int .i64 a, .int .i64 b, .int .i64 c, .int .i64 d, .int .i64 e, .int .i64 f] 23)) #[.int .i64 x, .int .i64 y] 25 (w.heap.size + 1) (by simp))
  have HB0 := hid (below_alloc (below_alloc (Below.refl _ w) (.cells #[.int .i64 a, .int .i64 b, .int .i64 c, .int .i64 d, .int .i64 e, .int .i64 f] 23)) (.cells #[.int .i64 x, .int .i64 y] 25))
  go_enter Try.func4, Try.ntmps4
  go_wp2_with fail
  (with_reducible refine (maps_any _).mono ?_); rintro e0 w1 ⟨rfl, hb⟩
  have HM1 := hid (HM0.out.next hb)
  have HP1 := hid (HP0.out.next hb)
  have HB1 := hid (below_next HB0.out hb)
  clear hb HM0 HP0 HB0
  obtain ⟨p10, p11, p12, p13, p14, p15, p1f⟩ := HM1.out.read6
  have t1 := HM1.out.lt
  go_wp2_with fail
  clear p10 p11 p12 p13 p14 p15 p1f t1
  (with_reducible refine (inv_any _ _ _ _ _ _ _ _ _ _ _ _ _ _ HT.out).mono ?_); rintro e0 w2 ⟨rfl, hb⟩
  have HM2 := hid (HM1.out.next hb)
  have HP2 := hid (HP1.out.next hb)
  have HB2 := hid (below_next HB1.out hb)
  clear hb HM1 HP1 HB1
  obtain ⟨p10, p11, p12, p13, p14, p15, p1f⟩ := HM2.out.read6
  have t1 := HM2.out.lt
  obtain ⟨p30, p31, p3f⟩ := HP2.out.read2
  have t3 := HP2.out.lt
  go_wp2_with fail
  clear p10 p11 p12 p13 p14 p15 p1f t1 p30 p31 p3f t3
  (with_reducible refine (app_any _ _ _ _ _ _ _ _ _ _ _ _ HQ.out).mono ?_); rintro e0 w3 ⟨rfl, hb⟩
  have HO3 := hid ((Var.new w2 #[.int .i64 o0, .int .i64 o1, .int .i64 o2, .int .i64 o3, .int .i64 o4, .int .i64 o5] 23 _ rfl).next hb)
  have HP3 := hid ((HP2.out.alloc _).next hb)
  have HB3 := hid (below_next (below_alloc HB2.out _) hb)
  clear hb HM2 HP2 HB2
  obtain ⟨p20, p21, p22, p23, p24, p25, p2f⟩ := HO3.out.read6
  have t2 := HO3.out.lt
  go_wp2_with fail
  clear p20 p21 p22 p23 p24 p25 p2f t2
  (with_reducible refine (app_any _ _ _ _ _ _ _ _ _ _ _ _ HZ.out).mono ?_); rintro e0 w5 ⟨rfl, hb⟩
  have HQ5 := hid (((Var.new w3 #[.int .i64 q0, .int .i64 q1] 25 _ rfl).next hb).alloc (.cells #[.int .i64 z0, .int .i64 z1] 25))
  have HO5 := hid (((HO3.out.alloc _).next hb).alloc (.cells #[.int .i64 z0, .int .i64 z1] 25))
  have HP5 := hid (((HP3.out.alloc _).next hb).alloc (.cells #[.int .i64 z0, .int .i64 z1] 25))
  have HZ5 := hid (Var.new w5 #[.int .i64 z0, .int .i64 z1] 25 _ rfl)
  have HB5 := hid (below_alloc (below_next (below_alloc HB3.out _) hb) (.cells #[.int .i64 z0, .int .i64 z1] 25))
  clear hb HO3 HP3 HB3
  go_wp2_with fail
  all_goals go_ret
  all_goals exact ⟨rfl, by repeat (first | exact HB5.out | apply below_drewN | apply Below.drew | apply below_alloc)⟩

theorem early2 (a b c d e f x y o0 o1 o2 o3 o4 o5 q0 q1 z0 z1 r2 : Int) (w : World) (hT : InvIs a b c d e f (mx o0 o1 o2 o3 o4 o5) 0) (hQ : AppIs a b c d e f x y (pt q0 q1) 0) (hZ : AppIs o0 o1 o2 o3 o4 o5 q0 q1 (pt z0 z1) r2) (h0 : r2 ≠ 0) :
    Calls Try.prog 4 #[mx a b c d e f, pt x y] w fun r w' => r = .returned (.bool true) ∧ Below w.heap.size w w' := by
  have HT := hid hT
  have HQ := hid hQ
  have HZ := hid hZ
  clear hT hQ hZ
  have hz : (r2 == 0) = false := beq_false_of_ne h0
  clear h0
  have HM0 := hid ((Var.new w #[.int .i64 a, .int .i64 b, .int .i64 c, .int .i64 d, .int .i64 e, .int .i64 f] 23 _ rfl).alloc (.cells #[.int .i64 x, .int .i64 y] 25))
  have HP0 := hid (Var.new (w.alloc (.cells #[.int .i64 a, .int .i64 b, .int .i64 c, .int .i64 d, .int .i64 e, .int .i64 f] 23)) #[.int .i64 x, .int .i64 y] 25 (w.heap.size + 1) (by simp))
  have HB0 := hid (below_alloc (below_alloc (Below.refl _ w) (.cells #[.int .i64 a, .int .i64 b, .int .i64 c, .int .i64 d, .int .i64 e, .int .i64 f] 23)) (.cells #[.int .i64 x, .int .i64 y] 25))
  go_enter Try.func4, Try.ntmps4
  go_wp2_with fail
  (with_reducible refine (maps_any _).mono ?_); rintro e0 w1 ⟨rfl, hb⟩
  have HM1 := hid (HM0.out.next hb)
  have HP1 := hid (HP0.out.next hb)
  have HB1 := hid (below_next HB0.out hb)
  clear hb HM0 HP0 HB0
  obtain ⟨p10, p11, p12, p13, p14, p15, p1f⟩ := HM1.out.read6
  have t1 := HM1.out.lt
  go_wp2_with fail
  clear p10 p11 p12 p13 p14 p15 p1f t1
  (with_reducible refine (inv_any _ _ _ _ _ _ _ _ _ _ _ _ _ _ HT.out).mono ?_); rintro e0 w2 ⟨rfl, hb⟩
  have HM2 := hid (HM1.out.next hb)
  have HP2 := hid (HP1.out.next hb)
  have HB2 := hid (below_next HB1.out hb)
  clear hb HM1 HP1 HB1
  obtain ⟨p10, p11, p12, p13, p14, p15, p1f⟩ := HM2.out.read6
  have t1 := HM2.out.lt
  obtain ⟨p30, p31, p3f⟩ := HP2.out.read2
  have t3 := HP2.out.lt
  go_wp2_with fail
  clear p10 p11 p12 p13 p14 p15 p1f t1 p30 p31 p3f t3
  (with_reducible refine (app_any _ _ _ _ _ _ _ _ _ _ _ _ HQ.out).mono ?_); rintro e0 w3 ⟨rfl, hb⟩
  have HO3 := hid ((Var.new w2 #[.int .i64 o0, .int .i64 o1, .int .i64 o2, .int .i64 o3, .int .i64 o4, .int .i64 o5] 23 _ rfl).next hb)
  have HP3 := hid ((HP2.out.alloc _).next hb)
  have HB3 := hid (below_next (below_alloc HB2.out _) hb)
  clear hb HM2 HP2 HB2
  obtain ⟨p20, p21, p22, p23, p24, p25, p2f⟩ := HO3.out.read6
  have t2 := HO3.out.lt
  go_wp2_with fail
  clear p20 p21 p22 p23 p24 p25 p2f t2
  (with_reducible refine (app_any _ _ _ _ _ _ _ _ _ _ _ _ HZ.out).mono ?_); rintro e0 w5 ⟨rfl, hb⟩
  have HQ5 := hid (((Var.new w3 #[.int .i64 q0, .int .i64 q1] 25 _ rfl).next hb).alloc (.cells #[.int .i64 z0, .int .i64 z1] 25))
  have HO5 := hid (((HO3.out.alloc _).next hb).alloc (.cells #[.int .i64 z0, .int .i64 z1] 25))
  have HP5 := hid (((HP3.out.alloc _).next hb).alloc (.cells #[.int .i64 z0, .int .i64 z1] 25))
  have HZ5 := hid (Var.new w5 #[.int .i64 z0, .int .i64 z1] 25 _ rfl)
  have HB5 := hid (below_alloc (below_next (below_alloc HB3.out _) hb) (.cells #[.int .i64 z0, .int .i64 z1] 25))
  clear hb HO3 HP3 HB3
  go_wp2_with fail
  all_goals go_ret
  all_goals exact ⟨rfl, by repeat (first | exact HB5.out | apply below_drewN | apply Below.drew | apply below_alloc)⟩

set_option maxHeartbeats 1000000 in
theorem all0 (a b c d e f x y o0 o1 o2 o3 o4 o5 q0 q1 z0 z1 : Int) (w : World) (hT : InvIs a b c d e f (mx o0 o1 o2 o3 o4 o5) 0) (hQ : AppIs a b c d e f x y (pt q0 q1) 0) (hZ : AppIs o0 o1 o2 o3 o4 o5 q0 q1 (pt z0 z1) 0) :
    Calls Try.prog 4 #[mx a b c d e f, pt x y] w fun r w' => r = .returned (.bool true) ∧ Below w.heap.size w w' := by
  have HT := hid hT
  have HQ := hid hQ
  have HZ := hid hZ
  obtain ⟨c1, c2, c3⟩ := MapIs.ok hT
  obtain ⟨f1, f2, f3⟩ := PtIs.ok hQ
  obtain ⟨k1, k2, k3⟩ := PtIs.ok hZ
  obtain ⟨g1, g2⟩ := if38 c1
  obtain ⟨g3, g4⟩ := if3 k1
  obtain ⟨g5, g6⟩ := if3 f1
  obtain ⟨n1, n2, n3, n4⟩ := wi4.1 g3.1
  obtain ⟨x1, y1⟩ := wi2.1 g4
  obtain ⟨x2, y2⟩ := wi2.1 g6
  obtain ⟨z1', z2'⟩ := wi2.1 (show Wi 32767 [z0, z1] by rw [k3.1, k3.2]; exact k2)
  have B1 := inv_bnd (D := a * d - b * c) rfl g2 c3.1 c3.2.2.1 c3.2.2.2.2.1 f3.1 f3.2 k3.1
  have B2 := inv_bnd (D := a * d - b * c) (mA := d) (mB := c) (mC := b) (mD := a) (mE := f) (mF := e) (px := y) (py := x) (qX := q1) (qY := q0) (oA := o3) (oC := o1) (oE := o5) (bX := z1)
    (by rw [Int.mul_comm d a, Int.mul_comm c b]) g2 c3.2.2.2.1 c3.2.1 c3.2.2.2.2.2 (by rw [f3.2]; congr 1; omega) (by rw [f3.1]; congr 1; omega) (by rw [k3.2]; congr 1; omega)
  have a1 := ab_bd x1
  have a2 := ab_bd y1
  have a3 := ab_bd n1
  have a4 := ab_bd n2
  have a5 := ab_bd n3
  have a6 := ab_bd n4
  clear hT hQ hZ c1 c2 c3 f1 f2 f3 k1 k2 k3 g1 g2 g3 g4 g5 g6
  have HM0 := hid ((Var.new w #[.int .i64 a, .int .i64 b, .int .i64 c, .int .i64 d, .int .i64 e, .int .i64 f] 23 _ rfl).alloc (.cells #[.int .i64 x, .int .i64 y] 25))
  have HP0 := hid (Var.new (w.alloc (.cells #[.int .i64 a, .int .i64 b, .int .i64 c, .int .i64 d, .int .i64 e, .int .i64 f] 23)) #[.int .i64 x, .int .i64 y] 25 (w.heap.size + 1) (by simp))
  have HB0 := hid (below_alloc (below_alloc (Below.refl _ w) (.cells #[.int .i64 a, .int .i64 b, .int .i64 c, .int .i64 d, .int .i64 e, .int .i64 f] 23)) (.cells #[.int .i64 x, .int .i64 y] 25))
  go_enter Try.func4, Try.ntmps4
  go_wp2_with fail
  (with_reducible refine (maps_any _).mono ?_); rintro e0 w1 ⟨rfl, hb⟩
  have HM1 := hid (HM0.out.next hb)
  have HP1 := hid (HP0.out.next hb)
  have HB1 := hid (below_next HB0.out hb)
  clear hb HM0 HP0 HB0
  obtain ⟨p10, p11, p12, p13, p14, p15, p1f⟩ := HM1.out.read6
  have t1 := HM1.out.lt
  go_wp2_with fail
  clear p10 p11 p12 p13 p14 p15 p1f t1
  (with_reducible refine (inv_any _ _ _ _ _ _ _ _ _ _ _ _ _ _ HT.out).mono ?_); rintro e0 w2 ⟨rfl, hb⟩
  have HM2 := hid (HM1.out.next hb)
  have HP2 := hid (HP1.out.next hb)
  have HB2 := hid (below_next HB1.out hb)
  clear hb HM1 HP1 HB1
  obtain ⟨p10, p11, p12, p13, p14, p15, p1f⟩ := HM2.out.read6
  have t1 := HM2.out.lt
  obtain ⟨p30, p31, p3f⟩ := HP2.out.read2
  have t3 := HP2.out.lt
  go_wp2_with fail
  clear p10 p11 p12 p13 p14 p15 p1f t1 p30 p31 p3f t3
  (with_reducible refine (app_any _ _ _ _ _ _ _ _ _ _ _ _ HQ.out).mono ?_); rintro e0 w3 ⟨rfl, hb⟩
  have HO3 := hid ((Var.new w2 #[.int .i64 o0, .int .i64 o1, .int .i64 o2, .int .i64 o3, .int .i64 o4, .int .i64 o5] 23 _ rfl).next hb)
  have HP3 := hid ((HP2.out.alloc _).next hb)
  have HB3 := hid (below_next (below_alloc HB2.out _) hb)
  clear hb HM2 HP2 HB2
  obtain ⟨p20, p21, p22, p23, p24, p25, p2f⟩ := HO3.out.read6
  have t2 := HO3.out.lt
  go_wp2_with fail
  clear p20 p21 p22 p23 p24 p25 p2f t2
  (with_reducible refine (app_any _ _ _ _ _ _ _ _ _ _ _ _ HZ.out).mono ?_); rintro e0 w5 ⟨rfl, hb⟩
  have HQ5 := hid (((Var.new w3 #[.int .i64 q0, .int .i64 q1] 25 _ rfl).next hb).alloc (.cells #[.int .i64 z0, .int .i64 z1] 25))
  have HO5 := hid (((HO3.out.alloc _).next hb).alloc (.cells #[.int .i64 z0, .int .i64 z1] 25))
  have HP5 := hid (((HP3.out.alloc _).next hb).alloc (.cells #[.int .i64 z0, .int .i64 z1] 25))
  have HZ5 := hid (Var.new w5 #[.int .i64 z0, .int .i64 z1] 25 _ rfl)
  have HB5 := hid (below_alloc (below_next (below_alloc HB3.out _) hb) (.cells #[.int .i64 z0, .int .i64 z1] 25))
  clear hb HO3 HP3 HB3
  go_upto_region 8 with fail
  generalize w5.alloc (.cells #[.int .i64 z0, .int .i64 z1] 25) = v6 at HQ5 HO5 HP5 HZ5 HB5
  rename_i Kn hKn
  refine wp_region_fan 8 1000 (Over v6) (by kernel_rfl) (by kernel_rfl) (Over.start v6) ?_
  simp only [List.take_succ_cons, List.take_zero, List.drop_succ_cons, List.drop_zero]
  have LHO5 := fun b w1 (h : Over v6 b w1) => h.var HO5.out
  have LHP5 := fun b w1 (h : Over v6 b w1) => h.var HP5.out
  have LHQ5 := fun b w1 (h : Over v6 b w1) => h.var HQ5.out
  have LHZ5 := fun b w1 (h : Over v6 b w1) => h.var HZ5.out
  refine WalksE.sound _ _ _ _ ?_ (((((Is.start _ (n := 85) rfl).pin 9 (v := .pointer (some ⟨w5.heap.size, 0, none⟩)) rfl).pin 3 (v := .pointer (some ⟨w.heap.size + 1, 0, none⟩)) rfl).pin 5 (v := .pointer (some ⟨w2.heap.size, 0, none⟩)) rfl).pin 7 (v := .pointer (some ⟨w3.heap.size, 0, none⟩)) rfl)
  generalize (fun i => Array.getD _ i undef) = g
  refine walks_with fun KQ hKQ => ?_
  (refine walks_one fun K hK => ?_); refine st_pure rfl rfl (fun _ => rfl) ?_; refine hK _ ?_; clear hK K
  (refine walks_one fun K hK => ?_); refine st_load LHQ5 rfl rfl rfl rfl ?_; refine hK _ ?_; clear hK K
  (refine walks_one fun K hK => ?_); refine st_call rfl rfl (fun _ => run_call13 rfl) (fun _ _ h => size_over h rfl rfl (by omega)) ?_; refine hK _ ?_; clear hK K
  (refine walks_one fun K hK => ?_); refine st_pure rfl rfl (fun _ => rfl) ?_; refine hK _ ?_; clear hK K
  (refine walks_one fun K hK => ?_); refine st_pure rfl rfl (fun _ => rfl) ?_; refine hK _ ?_; clear hK K
  (refine walks_one fun K hK => ?_); refine st_load LHQ5 rfl rfl rfl rfl ?_; refine hK _ ?_; clear hK K
  (refine walks_one fun K hK => ?_); refine st_call rfl rfl (fun _ => run_call13 rfl) (fun _ _ h => size_over h rfl rfl (by omega)) ?_; refine hK _ ?_; clear hK K
  (refine walks_one fun K hK => ?_); refine st_pure rfl rfl (fun _ => rfl) ?_; refine hK _ ?_; clear hK K
  refine walks_end fun a9 ha9 => hKQ _ fun w9 hC => ?_
  have ed : a9.eval (.tmp 48) = .int .i64 (4098 + ab q0 + ab q1) := by
    rw [ha9.eval]
    show Value.int .i64 (IntKind.i64.wrap (IntKind.i64.wrap (4098 + ab q0) + ab q1)) = _
    rw [wrap_id (z := 4098 + ab q0) (by omega), wrap_id (by omega)]
  refine tailB ?_
  refine hKn _ _ ?_
  obtain ⟨g9, hg9, h1, h2, h3⟩ : ∃ g9, Is a9 85 g9 ∧ g9 9 = .pointer (some ⟨w5.heap.size, 0, none⟩) ∧ g9 3 = .pointer (some ⟨w.heap.size + 1, 0, none⟩) ∧ g9 5 = .pointer (some ⟨w2.heap.size, 0, none⟩) := ⟨_, ha9, rfl, rfl, rfl⟩
  rw [ed]
  generalize hb9 : a9.put (some 11) (.int .i64 (4098 + ab q0 + ab q1)) = b9
  have hb := hb9 ▸ hg9.put (d := 11) (by decide) (.int .i64 (4098 + ab q0 + ab q1))
  clear hb9 ed hKQ ha9
  have KHO5 := hid (HO5.out.next hC)
  have KHP5 := hid (HP5.out.next hC)
  have KHZ5 := hid (HZ5.out.next hC)
  have HB9 := hid (below_next HB5.out hC)
  clear hC LHO5 LHP5 LHQ5 LHZ5
  have qq1 : upd g9 11 (.int .i64 (4098 + ab q0 + ab q1)) 9 = .pointer (some ⟨w5.heap.size, 0, none⟩) := (upd_ne _ _ (by decide)).trans h1
  have qq2 : upd g9 11 (.int .i64 (4098 + ab q0 + ab q1)) 3 = .pointer (some ⟨w.heap.size + 1, 0, none⟩) := (upd_ne _ _ (by decide)).trans h2
  have qq3 : upd g9 11 (.int .i64 (4098 + ab q0 + ab q1)) 5 = .pointer (some ⟨w2.heap.size, 0, none⟩) := (upd_ne _ _ (by decide)).trans h3
  have qq4 : upd g9 11 (.int .i64 (4098 + ab q0 + ab q1)) 11 = .int .i64 (4098 + ab q0 + ab q1) := upd_at _ _ _
  generalize upd g9 11 (.int .i64 (4098 + ab q0 + ab q1)) = f9 at hb qq1 qq2 qq3 qq4
  clear h1 h2 h3 hg9
  have i1 := hb.pin 9 qq1
  have i2 := i1.pin 3 ((upd_ne _ _ (by decide)).trans qq2)
  have i3 := i2.pin 5 ((upd_ne _ _ (by decide)).trans ((upd_ne _ _ (by decide)).trans qq3))
  have i4 := i3.pin 11 ((upd_ne _ _ (by decide)).trans ((upd_ne _ _ (by decide)).trans ((upd_ne _ _ (by decide)).trans qq4)))
  clear i1 i2 i3 hb qq1 qq2 qq3 qq4
  go_upto_region 9 with fail
  rename_i Km hKm
  refine wp_region_fan 36 1000 (Over w9) (by kernel_rfl) (by kernel_rfl) (Over.start w9) ?_
  simp only [List.take_succ_cons, List.take_zero, List.drop_succ_cons, List.drop_zero]
  have LHO5 := fun b w1 (h : Over w9 b w1) => h.var KHO5.out
  have LHP5 := fun b w1 (h : Over w9 b w1) => h.var KHP5.out
  have LHZ5 := fun b w1 (h : Over w9 b w1) => h.var KHZ5.out
  have M1 : IntKind.i64.wrap (z0 - x) = z0 - x := wrap_id (by omega)
  have M2 : IntKind.i64.wrap (z1 - y) = z1 - y := wrap_id (by omega)
  have R1 : IntKind.i64.wrap (8192 * ab (z0 - x)) ≤ IntKind.i64.wrap (IntKind.i64.wrap (4098 + ab q0 + ab q1 + ab o0) + ab o2) := by
    have := ab_bd (x := z0 - x) (m := 70000) (by omega)
    rw [wrap_id (z := 8192 * ab (z0 - x)) (by omega), wrap_id (z := 4098 + ab q0 + ab q1 + ab o0) (by omega), wrap_id (by omega)]
    omega
  have R2 : IntKind.i64.wrap (8192 * ab (z1 - y)) ≤ IntKind.i64.wrap (IntKind.i64.wrap (4098 + ab q0 + ab q1 + ab o1) + ab o3) := by
    have := ab_bd (x := z1 - y) (m := 70000) (by omega)
    rw [wrap_id (z := 8192 * ab (z1 - y)) (by omega), wrap_id (z := 4098 + ab q0 + ab q1 + ab o1) (by omega), wrap_id (by omega)]
    omega
  refine WalksE.sound _ _ _ _ ?_ i4
  refine walks_with fun KQ hKQ => ?_
  (refine walks_one fun K hK => ?_); refine st_pure rfl rfl (fun _ => rfl) ?_; refine hK _ ?_; clear hK K
  (refine walks_one fun K hK => ?_); refine st_load LHZ5 rfl rfl rfl rfl ?_; refine hK _ ?_; clear hK K
  (refine walks_one fun K hK => ?_); refine st_pure rfl rfl (fun _ => rfl) ?_; refine hK _ ?_; clear hK K
  (refine walks_one fun K hK => ?_); refine st_load LHP5 rfl rfl rfl rfl ?_; refine hK _ ?_; clear hK K
  (refine walks_one fun K hK => ?_); refine st_pure rfl rfl (fun _ => rfl) ?_; refine hK _ ?_; clear hK K
  (refine walks_one fun K hK => ?_); refine st_call rfl rfl (fun _ => run_call13 rfl) (fun _ _ h => size_over h rfl M1 (by omega)) ?_; refine hK _ ?_; clear hK K
  (refine walks_one fun K hK => ?_); refine st_pure rfl rfl (fun _ => rfl) ?_; refine hK _ ?_; clear hK K
  (refine walks_one fun K hK => ?_); refine st_pure rfl rfl (fun _ => rfl) ?_; refine hK _ ?_; clear hK K
  (refine walks_one fun K hK => ?_); refine st_pure rfl rfl (fun _ => rfl) ?_; refine hK _ ?_; clear hK K
  (refine walks_one fun K hK => ?_); refine st_load LHO5 rfl rfl rfl rfl ?_; refine hK _ ?_; clear hK K
  (refine walks_one fun K hK => ?_); refine st_call rfl rfl (fun _ => run_call13 rfl) (fun _ _ h => size_over h rfl rfl (by omega)) ?_; refine hK _ ?_; clear hK K
  (refine walks_one fun K hK => ?_); refine st_pure rfl rfl (fun _ => rfl) ?_; refine hK _ ?_; clear hK K
  (refine walks_one fun K hK => ?_); refine st_pure rfl rfl (fun _ => rfl) ?_; refine hK _ ?_; clear hK K
  (refine walks_one fun K hK => ?_); refine st_load LHO5 rfl rfl rfl rfl ?_; refine hK _ ?_; clear hK K
  (refine walks_one fun K hK => ?_); refine st_call rfl rfl (fun _ => run_call13 rfl) (fun _ _ h => size_over h rfl rfl (by omega)) ?_; refine hK _ ?_; clear hK K
  (refine walks_one fun K hK => ?_); refine st_pure rfl rfl (fun _ => rfl) ?_; refine hK _ ?_; clear hK K
  (refine walks_one fun K hK => ?_); refine st_pure rfl rfl (fun _ => run_leq rfl rfl R1) ?_; refine hK _ ?_; clear hK K
  (refine walks_one fun K hK => ?_); refine st_pure rfl rfl (fun _ => rfl) ?_; refine hK _ ?_; clear hK K
  (refine walks_one fun K hK => ?_); refine st_pure rfl rfl (fun _ => rfl) ?_; refine hK _ ?_; clear hK K
  (refine walks_one fun K hK => ?_); refine st_load LHZ5 rfl rfl rfl rfl ?_; refine hK _ ?_; clear hK K
  (refine walks_one fun K hK => ?_); refine st_pure rfl rfl (fun _ => rfl) ?_; refine hK _ ?_; clear hK K
  (refine walks_one fun K hK => ?_); refine st_load LHP5 rfl rfl rfl rfl ?_; refine hK _ ?_; clear hK K
  (refine walks_one fun K hK => ?_); refine st_pure rfl rfl (fun _ => rfl) ?_; refine hK _ ?_; clear hK K
  (refine walks_one fun K hK => ?_); refine st_call rfl rfl (fun _ => run_call13 rfl) (fun _ _ h => size_over h rfl M2 (by omega)) ?_; refine hK _ ?_; clear hK K
  (refine walks_one fun K hK => ?_); refine st_pure rfl rfl (fun _ => rfl) ?_; refine hK _ ?_; clear hK K
  (refine walks_one fun K hK => ?_); refine st_pure rfl rfl (fun _ => rfl) ?_; refine hK _ ?_; clear hK K
  (refine walks_one fun K hK => ?_); refine st_pure rfl rfl (fun _ => rfl) ?_; refine hK _ ?_; clear hK K
  (refine walks_one fun K hK => ?_); refine st_load LHO5 rfl rfl rfl rfl ?_; refine hK _ ?_; clear hK K
  (refine walks_one fun K hK => ?_); refine st_call rfl rfl (fun _ => run_call13 rfl) (fun _ _ h => size_over h rfl rfl (by omega)) ?_; refine hK _ ?_; clear hK K
  (refine walks_one fun K hK => ?_); refine st_pure rfl rfl (fun _ => rfl) ?_; refine hK _ ?_; clear hK K
  (refine walks_one fun K hK => ?_); refine st_pure rfl rfl (fun _ => rfl) ?_; refine hK _ ?_; clear hK K
  (refine walks_one fun K hK => ?_); refine st_load LHO5 rfl rfl rfl rfl ?_; refine hK _ ?_; clear hK K
  (refine walks_one fun K hK => ?_); refine st_call rfl rfl (fun _ => run_call13 rfl) (fun _ _ h => size_over h rfl rfl (by omega)) ?_; refine hK _ ?_; clear hK K
  (refine walks_one fun K hK => ?_); refine st_pure rfl rfl (fun _ => rfl) ?_; refine hK _ ?_; clear hK K
  (refine walks_one fun K hK => ?_); refine st_pure rfl rfl (fun _ => run_leq rfl rfl R2) ?_; refine hK _ ?_; clear hK K
  (refine walks_one fun K hK => ?_); refine st_pure rfl rfl (fun _ => rfl) ?_; refine hK _ ?_; clear hK K
  refine walks_end fun a8 ha8 => hKQ _ fun w8 hC => ?_
  have e99 : a8.eval (.tmp 84) = .bool true := by rw [ha8.eval]; rfl
  refine tailB ?_
  refine hKm _ _ (wp_ret ?_)
  refine retB_is (ha8.put (d := 4) (by decide) _) Try.results4 ((upd_at _ _ _).trans e99) ?_
  exact And.intro rfl (below_next HB9.out hC)

theorem rest (a b c d e f x y : Int) (w : World) :
    Calls Try.prog 4 #[mx a b c d e f, pt x y] w fun r w' => r = .returned (.bool true) ∧ Below w.heap.size w w' := by
  obtain ⟨o0, o1, o2, o3, o4, o5, r0, hT⟩ : ∃ v0 v1 v2 v3 v4 v5 r, InvIs a b c d e f (mx v0 v1 v2 v3 v4 v5) r := MapIs.mk' ..
  obtain ⟨q0, q1, r1, hQ⟩ : ∃ v0 v1 r, AppIs a b c d e f x y (pt v0 v1) r := PtIs.mk' ..
  obtain ⟨z0, z1, r2, hZ⟩ : ∃ v0 v1 r, AppIs o0 o1 o2 o3 o4 o5 q0 q1 (pt v0 v1) r := PtIs.mk' ..
  by_cases h0 : r0 = 0
  · subst h0
    by_cases h1 : r1 = 0
    · subst h1
      by_cases h2 : r2 = 0
      · subst h2
        exact all0 _ _ _ _ _ _ _ _ _ _ _ _ _ _ _ _ _ _ w hT hQ hZ
      · exact early2 _ _ _ _ _ _ _ _ _ _ _ _ _ _ _ _ _ _ _ w hT hQ hZ h2
    · exact early1 _ _ _ _ _ _ _ _ _ _ _ _ _ _ _ _ _ _ _ _ w hT hQ hZ h1
  · exact early0 _ _ _ _ _ _ _ _ _ _ _ _ _ _ _ _ _ _ _ _ _ w hT hQ hZ h0

set_option maxRecDepth 100000 in
theorem lifted (os : Os) (started : os.Started) (H : Type) (enc : TypeId × Value → H) :
    ReturnsInHanded {} Try.checked os 4 .any (Rows.affineInverseBackSpec.pre6 enc Try.prog Try.f4 Rows.affineInverseBackRow.domain false) (Rows.affineInverseBackSpec.post enc Try.prog Try.f4 false true false false) := by
  refine returnsInHanded_of_change (C := Try.checked) own started (by kernel_rfl) Try.func4
    (ChangeSpec.witness6 (enc := enc) (C := Try.checked) false ⟨#[], #[.agg #[.int .i64 0, .int .i64 0, .int .i64 0, .int .i64 0, .int .i64 0, .int .i64 0], .agg #[.int .i64 0, .int .i64 0]], []⟩ 8 (by kernel_rfl) (by kernel_rfl) (by kernel_rfl) (by kernel_rfl)) ?_
  intro W base args ds gs before hval0 hW hcnd _
  have hval : ∀ (j : Nat) t v, Try.f4.params[j]? = some t → args[j]? = some v → Value.okWide Try.prog W .any base t v := hval0
  have hW' := hW
  obtain ⟨p, q, hA0, hV, rfl, hfz, hnd⟩ := hW
  have hA : DataW.TrodAll enc Try.prog W 0 (fun _ => true) true Try.f4.params.toList args.toList ds p := hA0
  rw [Try.params4] at hA hval
  obtain ⟨v0, vs0, d0, ds0, p0, q0, hargs, rfl, rfl, h0, r0⟩ := trodAll_cons hA
  obtain ⟨v1, vs1, d1, ds1, p1, q1, rfl, rfl, rfl, h1, r1⟩ := trodAll_cons r0
  obtain ⟨rfl, rfl, rfl⟩ := trodAll_nil r1
  obtain rfl : args = #[v0, v1] := by cases args; simp_all
  obtain ⟨rfl, rfl⟩ := trodVars_none hV
  have k0 := h0
  have lt0 : ∀ x ∈ p0, x.block < W.heap.size := by obtain ⟨m, hm⟩ := k0; exact DataW.trod_lt m _ _ _ hm
  obtain ⟨x0_0, x0_1, x0_2, x0_3, x0_4, x0_5, rfl⟩ := open_mx Try.underlying23 (by kernel_rfl) (by kernel_rfl) (by kernel_rfl) (hval 0 23 v0 rfl rfl) h0
  have k1 := h1
  have lt1 : ∀ x ∈ p1, x.block < W.heap.size := by obtain ⟨m, hm⟩ := k1; exact DataW.trod_lt m _ _ _ hm
  obtain ⟨x1_0, x1_1, rfl⟩ := open_pt Try.underlying25 (by kernel_rfl) (by kernel_rfl) (by kernel_rfl) (hval 1 25 v1 rfl rfl) h1
  clear hA0 hval0
  refine (rest x0_0 x0_1 x0_2 x0_3 x0_4 x0_5 x1_0 x1_1 W).mono fun e W' ⟨he, bel⟩ => ?_
  subst he
  exact ⟨_, rfl, _, _, _, [], _, [], hW', trodAll_mk1 (shut_bool Try.underlying4 _), (trodAll_cons_mk (Below.trod laidOut (by kernel_rfl) (of_decide_eq_true (by kernel_rfl)) k0 bel lt0) (trodAll_cons_mk (Below.trod laidOut (by kernel_rfl) (of_decide_eq_true (by kernel_rfl)) k1 bel lt1) trodAll_mk0)), rfl, bel.frame _, fun h => by cases h⟩

theorem over : Rows.affineInverseBackRow.holds Try.pinned (OpenSpec.ofChange Rows.affineInverseBackSpec) :=
  OpenClaim.holds_of_wide 4 Try.f4 rfl rfl rfl rfl rfl rfl rfl ⟨rfl, rfl, rfl, rfl, rfl⟩ rfl rfl rfl rfl rfl (by kernel_rfl) Try.func4 (by kernel_rfl)
    (of_decide_eq_true (by kernel_rfl)) (by unfold Func.isWrapper; first | (rw [if_pos (by decide +kernel)]; kernel_rfl) | (rw [if_neg (by decide +kernel)]; exact ⟨rfl, rfl⟩))
    (fun os started H enc _ => lifted os started H enc)

/-- The statement. -/
theorem proved : Rows.AffineInverseBackSaid := over
end Go.Proofs.Ytdelhelfphblcaa.affineInverseBack
