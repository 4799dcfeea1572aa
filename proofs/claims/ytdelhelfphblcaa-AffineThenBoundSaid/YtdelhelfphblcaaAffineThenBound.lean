/- The statement AffineThenBound returns true for every two maps of six ints and every point of two ints, and changes no argument; there is no further condition. -/
import Derived.Test.YtdelhelfphblcaaRows
import Derived.WalkKit
import Derived.ProofKit
import Derived.OpenShut
import Derived.ChangeOld
import Derived.Below
import Derived.Test.YtdelhelfphblcaaOpen
import Derived.Test.YtdelhelfphblcaaTests
import Derived.Test.YtdelhelfphblcaaMaps
import Derived.Test.YtdelhelfphblcaaThen
import Derived.Test.YtdelhelfphblcaaArith
namespace Go.Proofs.Ytdelhelfphblcaa.affineThenBound
open Go Go.ChangeShapes Go.WideShapes Go.ChangeAt Go.RowKit Go.Deep
set_option linter.unusedVariables false

theorem size_over {W : World} {u : Value} {X' X : Int} {g : Bool} {w : World} (h : Over W g w) (hu : u = .int .i64 X') (hX : X' = X) (hb : -4611686018427387904 ≤ X ∧ X ≤ 4611686018427387904) :
    Calls Try.prog 13 #[u] w fun r w' => r = .returned (.int .i64 (ab X)) ∧ Over W g w' := by
  subst hu hX
  exact (size_any _ w hb.1 hb.2).mono fun r w' ⟨hr, hw⟩ => ⟨hr, hw ▸ h⟩
theorem ab_bd {x m : Int} (h : -m ≤ x ∧ x ≤ m) : 0 ≤ ab x ∧ ab x ≤ m := by unfold ab; omega

theorem MapIs.ok {e0 a b c d e f : Int} {v0 v1 v2 v3 v4 v5 : Int} (h : MapIs e0 a b c d e f (mx v0 v1 v2 v3 v4 v5) 0) : e0 = 0 ∧ Good a b c d e f ∧ (v0 = a ∧ v1 = b ∧ v2 = c ∧ v3 = d ∧ v4 = e ∧ v5 = f) := by
  by_cases h0 : e0 = 0
  · by_cases hg : Good a b c d e f
    · exact ⟨h0, hg, by simpa [mx] using (h.good h0 hg).1⟩
    · exact absurd (h.over h0 hg).2 (by decide)
  · exact absurd (h.bad h0).2.symm h0
theorem PtIs.ok {e0 x y v0 v1 : Int} (h : PtIs e0 x y (pt v0 v1) 0) : e0 = 0 ∧ Wi 32767 [x, y] ∧ (v0 = x ∧ v1 = y) := by
  by_cases h0 : e0 = 0
  · by_cases hg : Wi 32767 [x, y]
    · exact ⟨h0, hg, by simpa [pt] using (h.good h0 hg).1⟩
    · exact absurd (h.over h0 hg).2 (by decide)
  · exact absurd (h.bad h0).2.symm h0
theorem if3 {p : Prop} [Decidable p] (h : (if p then (0 : Int) else 3) = 0) : p := by
  by_cases hp : p
  · exact hp
  · rw [if_neg hp] at h; exact absurd h (by decide)

theorem early0 (a b c d e f a' b' c' d' e' f' x y o0 o1 o2 o3 o4 o5 r0 u0 u1 r1 q0 q1 r2 z0 z1 r3  : Int) (w : World) (hT : ThenIs a b c d e f a' b' c' d' e' f' (mx o0 o1 o2 o3 o4 o5) r0) (hA : AppIs o0 o1 o2 o3 o4 o5 x y (pt u0 u1) r1) (hQ : AppIs a b c d e f x y (pt q0 q1) r2) (hZ : AppIs a' b' c' d' e' f' q0 q1 (pt z0 z1) r3) (h0 : r0 ≠ 0) :
    Calls Try.prog 3 #[mx a b c d e f, mx a' b' c' d' e' f', pt x y] w fun r w' => r = .returned (.bool true) ∧ Below w.heap.size w w' := by
  have HT := hid hT
  have HA := hid hA
  have HQ := hid hQ
  have HZ := hid hZ
  clear hT hA hQ hZ
  have hz : (r0 == 0) = false := beq_false_of_ne h0
  clear h0
  have HM0 := hid (((Var.new w #[.int .i64 a, .int .i64 b, .int .i64 c, .int .i64 d, .int .i64 e, .int .i64 f] 23 _ rfl).alloc (.cells #[.int .i64 a', .int .i64 b', .int .i64 c', .int .i64 d', .int .i64 e', .int .i64 f'] 23)).alloc (.cells #[.int .i64 x, .int .i64 y] 25))
  have HN0 := hid ((Var.new (w.alloc (.cells #[.int .i64 a, .int .i64 b, .int .i64 c, .int .i64 d, .int .i64 e, .int .i64 f] 23)) #[.int .i64 a', .int .i64 b', .int .i64 c', .int .i64 d', .int .i64 e', .int .i64 f'] 23 (w.heap.size + 1) (by simp)).alloc (.cells #[.int .i64 x, .int .i64 y] 25))
  have HP0 := hid (Var.new ((w.alloc (.cells #[.int .i64 a, .int .i64 b, .int .i64 c, .int .i64 d, .int .i64 e, .int .i64 f] 23)).alloc (.cells #[.int .i64 a', .int .i64 b', .int .i64 c', .int .i64 d', .int .i64 e', .int .i64 f'] 23)) #[.int .i64 x, .int .i64 y] 25 (w.heap.size + 1 + 1) (by simp))
  have HB0 := hid (below_alloc (below_alloc (below_alloc (Below.refl _ w) (.cells #[.int .i64 a, .int .i64 b, .int .i64 c, .int .i64 d, .int .i64 e, .int .i64 f] 23)) (.cells #[.int .i64 a', .int .i64 b', .int .i64 c', .int .i64 d', .int .i64 e', .int .i64 f'] 23)) (.cells #[.int .i64 x, .int .i64 y] 25))
  go_enter Try.func3, Try.ntmps3
  go_wp2_with fail
  (with_reducible refine (maps_any _).mono ?_); rintro e0 w1 ⟨rfl, hb⟩
  have HM1 := hid (HM0.out.next hb)
  have HN1 := hid (HN0.out.next hb)
  have HP1 := hid (HP0.out.next hb)
  have HB1 := hid (below_next HB0.out hb)
  clear hb HM0 HN0 HP0 HB0
  obtain ⟨p10, p11, p12, p13, p14, p15, p1f⟩ := HM1.out.read6
  have t1 := HM1.out.lt
  obtain ⟨p20, p21, p22, p23, p24, p25, p2f⟩ := HN1.out.read6
  have t2 := HN1.out.lt
  go_wp2_with fail
  clear p10 p11 p12 p13 p14 p15 p1f t1 p20 p21 p22 p23 p24 p25 p2f t2
  (with_reducible refine (then_any _ _ _ _ _ _ _ _ _ _ _ _ _ _ _ _ _ _ _ _ HT.out).mono ?_); rintro e0 w2 ⟨rfl, hb⟩
  have HM2 := hid (HM1.out.next hb)
  have HN2 := hid (HN1.out.next hb)
  have HP2 := hid (HP1.out.next hb)
  have HB2 := hid (below_next HB1.out hb)
  clear hb HM1 HN1 HP1 HB1
  obtain ⟨p30, p31, p3f⟩ := HP2.out.read2
  have t3 := HP2.out.lt
  go_wp2_with fail
  clear p30 p31 p3f t3
  (with_reducible refine (app_any _ _ _ _ _ _ _ _ _ _ _ _ HA.out).mono ?_); rintro e0 w3 ⟨rfl, hb⟩
  have HM3 := hid ((HM2.out.alloc _).next hb)
  have HN3 := hid ((HN2.out.alloc _).next hb)
  have HP3 := hid ((HP2.out.alloc _).next hb)
  have HB3 := hid (below_next (below_alloc HB2.out _) hb)
  clear hb HM2 HN2 HP2 HB2
  obtain ⟨p10, p11, p12, p13, p14, p15, p1f⟩ := HM3.out.read6
  have t1 := HM3.out.lt
  obtain ⟨p30, p31, p3f⟩ := HP3.out.read2
  have t3 := HP3.out.lt
  go_wp2_with fail
  clear p10 p11 p12 p13 p14 p15 p1f t1 p30 p31 p3f t3
  (with_reducible refine (app_any _ _ _ _ _ _ _ _ _ _ _ _ HQ.out).mono ?_); rintro e0 w4 ⟨rfl, hb⟩
  have HU4 := hid ((Var.new w3 #[.int .i64 u0, .int .i64 u1] 25 _ rfl).next hb)
  have HN4 := hid ((HN3.out.alloc _).next hb)
  have HP4 := hid ((HP3.out.alloc _).next hb)
  have HB4 := hid (below_next (below_alloc HB3.out _) hb)
  clear hb HM3 HN3 HP3 HB3
  obtain ⟨p20, p21, p22, p23, p24, p25, p2f⟩ := HN4.out.read6
  have t2 := HN4.out.lt
  go_wp2_with fail
  clear p20 p21 p22 p23 p24 p25 p2f t2
  (with_reducible refine (app_any _ _ _ _ _ _ _ _ _ _ _ _ HZ.out).mono ?_); rintro e0 w5 ⟨rfl, hb⟩
  have HU5 := hid (((HU4.out.alloc _).next hb).alloc (.cells #[.int .i64 z0, .int .i64 z1] 25))
  have HN5 := hid (((HN4.out.alloc _).next hb).alloc (.cells #[.int .i64 z0, .int .i64 z1] 25))
  have HP5 := hid (((HP4.out.alloc _).next hb).alloc (.cells #[.int .i64 z0, .int .i64 z1] 25))
  have HZ5 := hid (Var.new w5 #[.int .i64 z0, .int .i64 z1] 25 _ rfl)
  have HB5 := hid (below_alloc (below_next (below_alloc HB4.out _) hb) (.cells #[.int .i64 z0, .int .i64 z1] 25))
  clear hb HU4 HN4 HP4 HB4
  go_wp2_with fail
  all_goals go_ret
  all_goals exact ⟨rfl, by repeat (first | exact HB5.out | apply below_drewN | apply Below.drew | apply below_alloc)⟩

theorem early1 (a b c d e f a' b' c' d' e' f' x y o0 o1 o2 o3 o4 o5 u0 u1 r1 q0 q1 r2 z0 z1 r3  : Int) (w : World) (hT : ThenIs a b c d e f a' b' c' d' e' f' (mx o0 o1 o2 o3 o4 o5) 0) (hA : AppIs o0 o1 o2 o3 o4 o5 x y (pt u0 u1) r1) (hQ : AppIs a b c d e f x y (pt q0 q1) r2) (hZ : AppIs a' b' c' d' e' f' q0 q1 (pt z0 z1) r3) (h0 : r1 ≠ 0) :
    Calls Try.prog 3 #[mx a b c d e f, mx a' b' c' d' e' f', pt x y] w fun r w' => r = .returned (.bool true) ∧ Below w.heap.size w w' := by
  have HT := hid hT
  have HA := hid hA
  have HQ := hid hQ
  have HZ := hid hZ
  clear hT hA hQ hZ
  have hz : (r1 == 0) = false := beq_false_of_ne h0
  clear h0
  have HM0 := hid (((Var.new w #[.int .i64 a, .int .i64 b, .int .i64 c, .int .i64 d, .int .i64 e, .int .i64 f] 23 _ rfl).alloc (.cells #[.int .i64 a', .int .i64 b', .int .i64 c', .int .i64 d', .int .i64 e', .int .i64 f'] 23)).alloc (.cells #[.int .i64 x, .int .i64 y] 25))
  have HN0 := hid ((Var.new (w.alloc (.cells #[.int .i64 a, .int .i64 b, .int .i64 c, .int .i64 d, .int .i64 e, .int .i64 f] 23)) #[.int .i64 a', .int .i64 b', .int .i64 c', .int .i64 d', .int .i64 e', .int .i64 f'] 23 (w.heap.size + 1) (by simp)).alloc (.cells #[.int .i64 x, .int .i64 y] 25))
  have HP0 := hid (Var.new ((w.alloc (.cells #[.int .i64 a, .int .i64 b, .int .i64 c, .int .i64 d, .int .i64 e, .int .i64 f] 23)).alloc (.cells #[.int .i64 a', .int .i64 b', .int .i64 c', .int .i64 d', .int .i64 e', .int .i64 f'] 23)) #[.int .i64 x, .int .i64 y] 25 (w.heap.size + 1 + 1) (by simp))
  have HB0 := hid (below_alloc (below_alloc (below_alloc (Below.refl _ w) (.cells #[.int .i64 a, .int .i64 b, .int .i64 c, .int .i64 d, .int .i64 e, .int .i64 f] 23)) (.cells #[.int .i64 a', .int .i64 b', .int .i64 c', .int .i64 d', .int .i64 e', .int .i64 f'] 23)) (.cells #[.int .i64 x, .int .i64 y] 25))
  go_enter Try.func3, Try.ntmps3
  go_wp2_with fail
  (with_reducible refine (maps_any _).mono ?_); rintro e0 w1 ⟨rfl, hb⟩
  have HM1 := hid (HM0.out.next hb)
  have HN1 := hid (HN0.out.next hb)
  have HP1 := hid (HP0.out.next hb)
  have HB1 := hid (below_next HB0.out hb)
  clear hb HM0 HN0 HP0 HB0
  obtain ⟨p10, p11, p12, p13, p14, p15, p1f⟩ := HM1.out.read6
  have t1 := HM1.out.lt
  obtain ⟨p20, p21, p22, p23, p24, p25, p2f⟩ := HN1.out.read6
  have t2 := HN1.out.lt
  go_wp2_with fail
  clear p10 p11 p12 p13 p14 p15 p1f t1 p20 p21 p22 p23 p24 p25 p2f t2
  (with_reducible refine (then_any _ _ _ _ _ _ _ _ _ _ _ _ _ _ _ _ _ _ _ _ HT.out).mono ?_); rintro e0 w2 ⟨rfl, hb⟩
  have HM2 := hid (HM1.out.next hb)
  have HN2 := hid (HN1.out.next hb)
  have HP2 := hid (HP1.out.next hb)
  have HB2 := hid (below_next HB1.out hb)
  clear hb HM1 HN1 HP1 HB1
  obtain ⟨p30, p31, p3f⟩ := HP2.out.read2
  have t3 := HP2.out.lt
  go_wp2_with fail
  clear p30 p31 p3f t3
  (with_reducible refine (app_any _ _ _ _ _ _ _ _ _ _ _ _ HA.out).mono ?_); rintro e0 w3 ⟨rfl, hb⟩
  have HM3 := hid ((HM2.out.alloc _).next hb)
  have HN3 := hid ((HN2.out.alloc _).next hb)
  have HP3 := hid ((HP2.out.alloc _).next hb)
  have HB3 := hid (below_next (below_alloc HB2.out _) hb)
  clear hb HM2 HN2 HP2 HB2
  obtain ⟨p10, p11, p12, p13, p14, p15, p1f⟩ := HM3.out.read6
  have t1 := HM3.out.lt
  obtain ⟨p30, p31, p3f⟩ := HP3.out.read2
  have t3 := HP3.out.lt
  go_wp2_with fail
  clear p10 p11 p12 p13 p14 p15 p1f t1 p30 p31 p3f t3
  (with_reducible refine (app_any _ _ _ _ _ _ _ _ _ _ _ _ HQ.out).mono ?_); rintro e0 w4 ⟨rfl, hb⟩
  have HU4 := hid ((Var.new w3 #[.int .i64 u0, .int .i64 u1] 25 _ rfl).next hb)
  have HN4 := hid ((HN3.out.alloc _).next hb)
  have HP4 := hid ((HP3.out.alloc _).next hb)
  have HB4 := hid (below_next (below_alloc HB3.out _) hb)
  clear hb HM3 HN3 HP3 HB3
  obtain ⟨p20, p21, p22, p23, p24, p25, p2f⟩ := HN4.out.read6
  have t2 := HN4.out.lt
  go_wp2_with fail
  clear p20 p21 p22 p23 p24 p25 p2f t2
  (with_reducible refine (app_any _ _ _ _ _ _ _ _ _ _ _ _ HZ.out).mono ?_); rintro e0 w5 ⟨rfl, hb⟩
  have HU5 := hid (((HU4.out.alloc _).next hb).alloc (.cells #[.int .i64 z0, .int .i64 z1] 25))
  have HN5 := hid (((HN4.out.alloc _).next hb).alloc (.cells #[.int .i64 z0, .int .i64 z1] 25))
  have HP5 := hid (((HP4.out.alloc _).next hb).alloc (.cells #[.int .i64 z0, .int .i64 z1] 25))
  have HZ5 := hid (Var.new w5 #[.int .i64 z0, .int .i64 z1] 25 _ rfl)
  have HB5 := hid (below_alloc (below_next (below_alloc HB4.out _) hb) (.cells #[.int .i64 z0, .int .i64 z1] 25))
  clear hb HU4 HN4 HP4 HB4
  go_wp2_with fail
  all_goals go_ret
  all_goals exact ⟨rfl, by repeat (first | exact HB5.out | apply below_drewN | apply Below.drew | apply below_alloc)⟩

theorem early2 (a b c d e f a' b' c' d' e' f' x y o0 o1 o2 o3 o4 o5 u0 u1 q0 q1 r2 z0 z1 r3  : Int) (w : World) (hT : ThenIs a b c d e f a' b' c' d' e' f' (mx o0 o1 o2 o3 o4 o5) 0) (hA : AppIs o0 o1 o2 o3 o4 o5 x y (pt u0 u1) 0) (hQ : AppIs a b c d e f x y (pt q0 q1) r2) (hZ : AppIs a' b' c' d' e' f' q0 q1 (pt z0 z1) r3) (h0 : r2 ≠ 0) :
    Calls Try.prog 3 #[mx a b c d e f, mx a' b' c' d' e' f', pt x y] w fun r w' => r = .returned (.bool true) ∧ Below w.heap.size w w' := by
  have HT := hid hT
  have HA := hid hA
  have HQ := hid hQ
  have HZ := hid hZ
  clear hT hA hQ hZ
  have hz : (r2 == 0) = false := beq_false_of_ne h0
  clear h0
  have HM0 := hid (((Var.new w #[.int .i64 a, .int .i64 b, .int .i64 c, .int .i64 d, .int .i64 e, .int .i64 f] 23 _ rfl).alloc (.cells #[.int .i64 a', .int .i64 b', .int .i64 c', .int .i64 d', .int .i64 e', .int .i64 f'] 23)).alloc (.cells #[.int .i64 x, .int .i64 y] 25))
  have HN0 := hid ((Var.new (w.alloc (.cells #[.int .i64 a, .int .i64 b, .int .i64 c, .int .i64 d, .int .i64 e, .int .i64 f] 23)) #[.int .i64 a', .int .i64 b', .int .i64 c', .int .i64 d', .int .i64 e', .int .i64 f'] 23 (w.heap.size + 1) (by simp)).alloc (.cells #[.int .i64 x, .int .i64 y] 25))
  have HP0 := hid (Var.new ((w.alloc (.cells #[.int .i64 a, .int .i64 b, .int .i64 c, .int .i64 d, .int .i64 e, .int .i64 f] 23)).alloc (.cells #[.int .i64 a', .int .i64 b', .int .i64 c', .int .i64 d', .int .i64 e', .int .i64 f'] 23)) #[.int .i64 x, .int .i64 y] 25 (w.heap.size + 1 + 1) (by simp))
  have HB0 := hid (below_alloc (below_alloc (below_alloc (Below.refl _ w) (.cells #[.int .i64 a, .int .i64 b, .int .i64 c, .int .i64 d, .int .i64 e, .int .i64 f] 23)) (.cells #[.int .i64 a', .int .i64 b', .int .i64 c', .int .i64 d', .int .i64 e', .int .i64 f'] 23)) (.cells #[.int .i64 x, .int .i64 y] 25))
  go_enter Try.func3, Try.ntmps3
  go_wp2_with fail
  (with_reducible refine (maps_any _).mono ?_); rintro e0 w1 ⟨rfl, hb⟩
  have HM1 := hid (HM0.out.next hb)
  have HN1 := hid (HN0.out.next hb)
  have HP1 := hid (HP0.out.next hb)
  have HB1 := hid (below_next HB0.out hb)
  clear hb HM0 HN0 HP0 HB0
  obtain ⟨p10, p11, p12, p13, p14, p15, p1f⟩ := HM1.out.read6
  have t1 := HM1.out.lt
  obtain ⟨p20, p21, p22, p23, p24, p25, p2f⟩ := HN1.out.read6
  have t2 := HN1.out.lt
  go_wp2_with fail
  clear p10 p11 p12 p13 p14 p15 p1f t1 p20 p21 p22 p23 p24 p25 p2f t2
  (with_reducible refine (then_any _ _ _ _ _ _ _ _ _ _ _ _ _ _ _ _ _ _ _ _ HT.out).mono ?_); rintro e0 w2 ⟨rfl, hb⟩
  have HM2 := hid (HM1.out.next hb)
  have HN2 := hid (HN1.out.next hb)
  have HP2 := hid (HP1.out.next hb)
  have HB2 := hid (below_next HB1.out hb)
  clear hb HM1 HN1 HP1 HB1
  obtain ⟨p30, p31, p3f⟩ := HP2.out.read2
  have t3 := HP2.out.lt
  go_wp2_with fail
  clear p30 p31 p3f t3
  (with_reducible refine (app_any _ _ _ _ _ _ _ _ _ _ _ _ HA.out).mono ?_); rintro e0 w3 ⟨rfl, hb⟩
  have HM3 := hid ((HM2.out.alloc _).next hb)
  have HN3 := hid ((HN2.out.alloc _).next hb)
  have HP3 := hid ((HP2.out.alloc _).next hb)
  have HB3 := hid (below_next (below_alloc HB2.out _) hb)
  clear hb HM2 HN2 HP2 HB2
  obtain ⟨p10, p11, p12, p13, p14, p15, p1f⟩ := HM3.out.read6
  have t1 := HM3.out.lt
  obtain ⟨p30, p31, p3f⟩ := HP3.out.read2
  have t3 := HP3.out.lt
  go_wp2_with fail
  clear p10 p11 p12 p13 p14 p15 p1f t1 p30 p31 p3f t3
  (with_reducible refine (app_any _ _ _ _ _ _ _ _ _ _ _ _ HQ.out).mono ?_); rintro e0 w4 ⟨rfl, hb⟩
  have HU4 := hid ((Var.new w3 #[.int .i64 u0, .int .i64 u1] 25 _ rfl).next hb)
  have HN4 := hid ((HN3.out.alloc _).next hb)
  have HP4 := hid ((HP3.out.alloc _).next hb)
  have HB4 := hid (below_next (below_alloc HB3.out _) hb)
  clear hb HM3 HN3 HP3 HB3
  obtain ⟨p20, p21, p22, p23, p24, p25, p2f⟩ := HN4.out.read6
  have t2 := HN4.out.lt
  go_wp2_with fail
  clear p20 p21 p22 p23 p24 p25 p2f t2
  (with_reducible refine (app_any _ _ _ _ _ _ _ _ _ _ _ _ HZ.out).mono ?_); rintro e0 w5 ⟨rfl, hb⟩
  have HU5 := hid (((HU4.out.alloc _).next hb).alloc (.cells #[.int .i64 z0, .int .i64 z1] 25))
  have HN5 := hid (((HN4.out.alloc _).next hb).alloc (.cells #[.int .i64 z0, .int .i64 z1] 25))
  have HP5 := hid (((HP4.out.alloc _).next hb).alloc (.cells #[.int .i64 z0, .int .i64 z1] 25))
  have HZ5 := hid (Var.new w5 #[.int .i64 z0, .int .i64 z1] 25 _ rfl)
  have HB5 := hid (below_alloc (below_next (below_alloc HB4.out _) hb) (.cells #[.int .i64 z0, .int .i64 z1] 25))
  clear hb HU4 HN4 HP4 HB4
  go_wp2_with fail
  all_goals go_ret
  all_goals exact ⟨rfl, by repeat (first | exact HB5.out | apply below_drewN | apply Below.drew | apply below_alloc)⟩

theorem early3 (a b c d e f a' b' c' d' e' f' x y o0 o1 o2 o3 o4 o5 u0 u1 q0 q1 z0 z1 r3  : Int) (w : World) (hT : ThenIs a b c d e f a' b' c' d' e' f' (mx o0 o1 o2 o3 o4 o5) 0) (hA : AppIs o0 o1 o2 o3 o4 o5 x y (pt u0 u1) 0) (hQ : AppIs a b c d e f x y (pt q0 q1) 0) (hZ : AppIs a' b' c' d' e' f' q0 q1 (pt z0 z1) r3) (h0 : r3 ≠ 0) :
    Calls Try.prog 3 #[mx a b c d e f, mx a' b' c' d' e' f', pt x y] w fun r w' => r = .returned (.bool true) ∧ Below w.heap.size w w' := by
  have HT := hid hT
  have HA := hid hA
  have HQ := hid hQ
  have HZ := hid hZ
  clear hT hA hQ hZ
  have hz : (r3 == 0) = false := beq_false_of_ne h0
  clear h0
  have HM0 := hid (((Var.new w #[.int .i64 a, .int .i64 b, .int .i64 c, .int .i64 d, .int .i64 e, .int .i64 f] 23 _ rfl).alloc (.cells #[.int .i64 a', .int .i64 b', .int .i64 c', .int .i64 d', .int .i64 e', .int .i64 f'] 23)).alloc (.cells #[.int .i64 x, .int .i64 y] 25))
  have HN0 := hid ((Var.new (w.alloc (.cells #[.int .i64 a, .int .i64 b, .int .i64 c, .int .i64 d, .int .i64 e, .int .i64 f] 23)) #[.int .i64 a', .int .i64 b', .int .i64 c', .int .i64 d', .int .i64 e', .int .i64 f'] 23 (w.heap.size + 1) (by simp)).alloc (.cells #[.int .i64 x, .int .i64 y] 25))
  have HP0 := hid (Var.new ((w.alloc (.cells #[.int .i64 a, .int .i64 b, .int .i64 c, .int .i64 d, .int .i64 e, .int .i64 f] 23)).alloc (.cells #[.int .i64 a', .int .i64 b', .int .i64 c', .int .i64 d', .int .i64 e', .int .i64 f'] 23)) #[.int .i64 x, .int .i64 y] 25 (w.heap.size + 1 + 1) (by simp))
  have HB0 := hid (below_alloc (below_alloc (below_alloc (Below.refl _ w) (.cells #[.int .i64 a, .int .i64 b, .int .i64 c, .int .i64 d, .int .i64 e, .int .i64 f] 23)) (.cells #[.int .i64 a', .int .i64 b', .int .i64 c', .int .i64 d', .int .i64 e', .int .i64 f'] 23)) (.cells #[.int .i64 x, .int .i64 y] 25))
  go_enter Try.func3, Try.ntmps3
  go_wp2_with fail
  (with_reducible refine (maps_any _).mono ?_); rintro e0 w1 ⟨rfl, hb⟩
  have HM1 := hid (HM0.out.next hb)
  have HN1 := hid (HN0.out.next hb)
  have HP1 := hid (HP0.out.next hb)
  have HB1 := hid (below_next HB0.out hb)
  clear hb HM0 HN0 HP0 HB0
  obtain ⟨p10, p11, p12, p13, p14, p15, p1f⟩ := HM1.out.read6
  have t1 := HM1.out.lt
  obtain ⟨p20, p21, p22, p23, p24, p25, p2f⟩ := HN1.out.read6
  have t2 := HN1.out.lt
  go_wp2_with fail
  clear p10 p11 p12 p13 p14 p15 p1f t1 p20 p21 p22 p23 p24 p25 p2f t2
  (with_reducible refine (then_any _ _ _ _ _ _ _ _ _ _ _ _ _ _ _ _ _ _ _ _ HT.out).mono ?_); rintro e0 w2 ⟨rfl, hb⟩
  have HM2 := hid (HM1.out.next hb)
  have HN2 := hid (HN1.out.next hb)
  have HP2 := hid (HP1.out.next hb)
  have HB2 := hid (below_next HB1.out hb)
  clear hb HM1 HN1 HP1 HB1
  obtain ⟨p30, p31, p3f⟩ := HP2.out.read2
  have t3 := HP2.out.lt
  go_wp2_with fail
  clear p30 p31 p3f t3
  (with_reducible refine (app_any _ _ _ _ _ _ _ _ _ _ _ _ HA.out).mono ?_); rintro e0 w3 ⟨rfl, hb⟩
  have HM3 := hid ((HM2.out.alloc _).next hb)
  have HN3 := hid ((HN2.out.alloc _).next hb)
  have HP3 := hid ((HP2.out.alloc _).next hb)
  have HB3 := hid (below_next (below_alloc HB2.out _) hb)
  clear hb HM2 HN2 HP2 HB2
  obtain ⟨p10, p11, p12, p13, p14, p15, p1f⟩ := HM3.out.read6
  have t1 := HM3.out.lt
  obtain ⟨p30, p31, p3f⟩ := HP3.out.read2
  have t3 := HP3.out.lt
  go_wp2_with fail
  clear p10 p11 p12 p13 p14 p15 p1f t1 p30 p31 p3f t3
  (with_reducible refine (app_any _ _ _ _ _ _ _ _ _ _ _ _ HQ.out).mono ?_); rintro e0 w4 ⟨rfl, hb⟩
  have HU4 := hid ((Var.new w3 #[.int .i64 u0, .int .i64 u1] 25 _ rfl).next hb)
  have HN4 := hid ((HN3.out.alloc _).next hb)
  have HP4 := hid ((HP3.out.alloc _).next hb)
  have HB4 := hid (below_next (below_alloc HB3.out _) hb)
  clear hb HM3 HN3 HP3 HB3
  obtain ⟨p20, p21, p22, p23, p24, p25, p2f⟩ := HN4.out.read6
  have t2 := HN4.out.lt
  go_wp2_with fail
  clear p20 p21 p22 p23 p24 p25 p2f t2
  (with_reducible refine (app_any _ _ _ _ _ _ _ _ _ _ _ _ HZ.out).mono ?_); rintro e0 w5 ⟨rfl, hb⟩
  have HU5 := hid (((HU4.out.alloc _).next hb).alloc (.cells #[.int .i64 z0, .int .i64 z1] 25))
  have HN5 := hid (((HN4.out.alloc _).next hb).alloc (.cells #[.int .i64 z0, .int .i64 z1] 25))
  have HP5 := hid (((HP4.out.alloc _).next hb).alloc (.cells #[.int .i64 z0, .int .i64 z1] 25))
  have HZ5 := hid (Var.new w5 #[.int .i64 z0, .int .i64 z1] 25 _ rfl)
  have HB5 := hid (below_alloc (below_next (below_alloc HB4.out _) hb) (.cells #[.int .i64 z0, .int .i64 z1] 25))
  clear hb HU4 HN4 HP4 HB4
  go_wp2_with fail
  all_goals go_ret
  all_goals exact ⟨rfl, by repeat (first | exact HB5.out | apply below_drewN | apply Below.drew | apply below_alloc)⟩

set_option maxHeartbeats 1000000 in
theorem all0 (a b c d e f a' b' c' d' e' f' x y o0 o1 o2 o3 o4 o5 u0 u1 q0 q1 z0 z1 : Int) (w : World) (hT : ThenIs a b c d e f a' b' c' d' e' f' (mx o0 o1 o2 o3 o4 o5) 0) (hA : AppIs o0 o1 o2 o3 o4 o5 x y (pt u0 u1) 0) (hQ : AppIs a b c d e f x y (pt q0 q1) 0) (hZ : AppIs a' b' c' d' e' f' q0 q1 (pt z0 z1) 0) :
    Calls Try.prog 3 #[mx a b c d e f, mx a' b' c' d' e' f', pt x y] w fun r w' => r = .returned (.bool true) ∧ Below w.heap.size w w' := by
  have HT := hid hT
  have HA := hid hA
  have HQ := hid hQ
  have HZ := hid hZ
  obtain ⟨c1, c2, c3⟩ := MapIs.ok hT
  obtain ⟨d1, d2, d3⟩ := PtIs.ok hA
  obtain ⟨f1, f2, f3⟩ := PtIs.ok hQ
  obtain ⟨k1, k2, k3⟩ := PtIs.ok hZ
  have gn := if3 c1
  obtain ⟨g1, g2⟩ := gn
  obtain ⟨g3, g4⟩ := if3 d1
  obtain ⟨n1, n2, n3, n4⟩ := wi4.1 g2.1
  obtain ⟨x1, y1⟩ := wi2.1 g4
  obtain ⟨u1', u2'⟩ := wi2.1 (show Wi 32767 [u0, u1] by rw [d3.1, d3.2]; exact d2)
  obtain ⟨z1', z2'⟩ := wi2.1 (show Wi 32767 [z0, z1] by rw [k3.1, k3.2]; exact k2)
  have B1 := then_bnd c3.1 c3.2.2.1 c3.2.2.2.2.1 d3.1 f3.1 f3.2 k3.1
  have B2 := then_bnd c3.2.1 c3.2.2.2.1 c3.2.2.2.2.2 d3.2 f3.1 f3.2 k3.2
  have a1 := ab_bd x1
  have a2 := ab_bd y1
  have a3 := ab_bd n1
  have a4 := ab_bd n2
  have a5 := ab_bd n3
  have a6 := ab_bd n4
  clear hT hA hQ hZ c1 c2 c3 d1 d2 d3 f1 f2 f3 k1 k2 k3 g1 g2 g3 g4
  have HM0 := hid (((Var.new w #[.int .i64 a, .int .i64 b, .int .i64 c, .int .i64 d, .int .i64 e, .int .i64 f] 23 _ rfl).alloc (.cells #[.int .i64 a', .int .i64 b', .int .i64 c', .int .i64 d', .int .i64 e', .int .i64 f'] 23)).alloc (.cells #[.int .i64 x, .int .i64 y] 25))
  have HN0 := hid ((Var.new (w.alloc (.cells #[.int .i64 a, .int .i64 b, .int .i64 c, .int .i64 d, .int .i64 e, .int .i64 f] 23)) #[.int .i64 a', .int .i64 b', .int .i64 c', .int .i64 d', .int .i64 e', .int .i64 f'] 23 (w.heap.size + 1) (by simp)).alloc (.cells #[.int .i64 x, .int .i64 y] 25))
  have HP0 := hid (Var.new ((w.alloc (.cells #[.int .i64 a, .int .i64 b, .int .i64 c, .int .i64 d, .int .i64 e, .int .i64 f] 23)).alloc (.cells #[.int .i64 a', .int .i64 b', .int .i64 c', .int .i64 d', .int .i64 e', .int .i64 f'] 23)) #[.int .i64 x, .int .i64 y] 25 (w.heap.size + 1 + 1) (by simp))
  have HB0 := hid (below_alloc (below_alloc (below_alloc (Below.refl _ w) (.cells #[.int .i64 a, .int .i64 b, .int .i64 c, .int .i64 d, .int .i64 e, .int .i64 f] 23)) (.cells #[.int .i64 a', .int .i64 b', .int .i64 c', .int .i64 d', .int .i64 e', .int .i64 f'] 23)) (.cells #[.int .i64 x, .int .i64 y] 25))
  go_enter Try.func3, Try.ntmps3
  go_wp2_with fail
  (with_reducible refine (maps_any _).mono ?_); rintro e0 w1 ⟨rfl, hb⟩
  have HM1 := hid (HM0.out.next hb)
  have HN1 := hid (HN0.out.next hb)
  have HP1 := hid (HP0.out.next hb)
  have HB1 := hid (below_next HB0.out hb)
  clear hb HM0 HN0 HP0 HB0
  obtain ⟨p10, p11, p12, p13, p14, p15, p1f⟩ := HM1.out.read6
  have t1 := HM1.out.lt
  obtain ⟨p20, p21, p22, p23, p24, p25, p2f⟩ := HN1.out.read6
  have t2 := HN1.out.lt
  go_wp2_with fail
  clear p10 p11 p12 p13 p14 p15 p1f t1 p20 p21 p22 p23 p24 p25 p2f t2
  (with_reducible refine (then_any _ _ _ _ _ _ _ _ _ _ _ _ _ _ _ _ _ _ _ _ HT.out).mono ?_); rintro e0 w2 ⟨rfl, hb⟩
  have HM2 := hid (HM1.out.next hb)
  have HN2 := hid (HN1.out.next hb)
  have HP2 := hid (HP1.out.next hb)
  have HB2 := hid (below_next HB1.out hb)
  clear hb HM1 HN1 HP1 HB1
  obtain ⟨p30, p31, p3f⟩ := HP2.out.read2
  have t3 := HP2.out.lt
  go_wp2_with fail
  clear p30 p31 p3f t3
  (with_reducible refine (app_any _ _ _ _ _ _ _ _ _ _ _ _ HA.out).mono ?_); rintro e0 w3 ⟨rfl, hb⟩
  have HM3 := hid ((HM2.out.alloc _).next hb)
  have HN3 := hid ((HN2.out.alloc _).next hb)
  have HP3 := hid ((HP2.out.alloc _).next hb)
  have HB3 := hid (below_next (below_alloc HB2.out _) hb)
  clear hb HM2 HN2 HP2 HB2
  obtain ⟨p10, p11, p12, p13, p14, p15, p1f⟩ := HM3.out.read6
  have t1 := HM3.out.lt
  obtain ⟨p30, p31, p3f⟩ := HP3.out.read2
  have t3 := HP3.out.lt
  go_wp2_with fail
  clear p10 p11 p12 p13 p14 p15 p1f t1 p30 p31 p3f t3
  (with_reducible refine (app_any _ _ _ _ _ _ _ _ _ _ _ _ HQ.out).mono ?_); rintro e0 w4 ⟨rfl, hb⟩
  have HU4 := hid ((Var.new w3 #[.int .i64 u0, .int .i64 u1] 25 _ rfl).next hb)
  have HN4 := hid ((HN3.out.alloc _).next hb)
  have HP4 := hid ((HP3.out.alloc _).next hb)
  have HB4 := hid (below_next (below_alloc HB3.out _) hb)
  clear hb HM3 HN3 HP3 HB3
  obtain ⟨p20, p21, p22, p23, p24, p25, p2f⟩ := HN4.out.read6
  have t2 := HN4.out.lt
  go_wp2_with fail
  clear p20 p21 p22 p23 p24 p25 p2f t2
  (with_reducible refine (app_any _ _ _ _ _ _ _ _ _ _ _ _ HZ.out).mono ?_); rintro e0 w5 ⟨rfl, hb⟩
  have HU5 := hid (((HU4.out.alloc _).next hb).alloc (.cells #[.int .i64 z0, .int .i64 z1] 25))
  have HN5 := hid (((HN4.out.alloc _).next hb).alloc (.cells #[.int .i64 z0, .int .i64 z1] 25))
  have HP5 := hid (((HP4.out.alloc _).next hb).alloc (.cells #[.int .i64 z0, .int .i64 z1] 25))
  have HZ5 := hid (Var.new w5 #[.int .i64 z0, .int .i64 z1] 25 _ rfl)
  have HB5 := hid (below_alloc (below_next (below_alloc HB4.out _) hb) (.cells #[.int .i64 z0, .int .i64 z1] 25))
  clear hb HU4 HN4 HP4 HB4
  go_upto_region 9 with fail
  generalize w5.alloc (.cells #[.int .i64 z0, .int .i64 z1] 25) = v6 at HU5 HN5 HP5 HZ5 HB5
  rename_i Kn hKn
  refine wp_region_fan 8 1000 (Over v6) (by kernel_rfl) (by kernel_rfl) (Over.start v6) ?_
  simp only [List.take_succ_cons, List.take_zero, List.drop_succ_cons, List.drop_zero]
  have LHN5 := fun b w1 (h : Over v6 b w1) => h.var HN5.out
  have LHP5 := fun b w1 (h : Over v6 b w1) => h.var HP5.out
  have LHU5 := fun b w1 (h : Over v6 b w1) => h.var HU5.out
  have LHZ5 := fun b w1 (h : Over v6 b w1) => h.var HZ5.out
  refine WalksE.sound _ _ _ _ ?_ (((((Is.start _ (n := 100) rfl).pin 9 (v := .pointer (some ⟨w3.heap.size, 0, none⟩)) rfl).pin 13 (v := .pointer (some ⟨w5.heap.size, 0, none⟩)) rfl).pin 4 (v := .pointer (some ⟨w.heap.size + 1, 0, none⟩)) rfl).pin 5 (v := .pointer (some ⟨w.heap.size + 1 + 1, 0, none⟩)) rfl)
  generalize (fun i => Array.getD _ i undef) = g
  refine walks_with fun KQ hKQ => ?_
  (refine walks_one fun K hK => ?_); refine st_pure rfl rfl (fun _ => rfl) ?_; refine hK _ ?_; clear hK K
  (refine walks_one fun K hK => ?_); refine st_load LHP5 rfl rfl rfl rfl ?_; refine hK _ ?_; clear hK K
  (refine walks_one fun K hK => ?_); refine st_call rfl rfl (fun _ => run_call13 rfl) (fun _ _ h => size_over h rfl rfl (by omega)) ?_; refine hK _ ?_; clear hK K
  (refine walks_one fun K hK => ?_); refine st_pure rfl rfl (fun _ => rfl) ?_; refine hK _ ?_; clear hK K
  (refine walks_one fun K hK => ?_); refine st_pure rfl rfl (fun _ => rfl) ?_; refine hK _ ?_; clear hK K
  (refine walks_one fun K hK => ?_); refine st_load LHP5 rfl rfl rfl rfl ?_; refine hK _ ?_; clear hK K
  (refine walks_one fun K hK => ?_); refine st_call rfl rfl (fun _ => run_call13 rfl) (fun _ _ h => size_over h rfl rfl (by omega)) ?_; refine hK _ ?_; clear hK K
  (refine walks_one fun K hK => ?_); refine st_pure rfl rfl (fun _ => rfl) ?_; refine hK _ ?_; clear hK K
  refine walks_end fun a9 ha9 => hKQ _ fun w9 hC => ?_
  have ed : a9.eval (.tmp 63) = .int .i64 (8193 + ab x + ab y) := by
    rw [ha9.eval]
    show Value.int .i64 (IntKind.i64.wrap (IntKind.i64.wrap (8193 + ab x) + ab y)) = _
    rw [wrap_id (z := 8193 + ab x) (by omega), wrap_id (by omega)]
  refine tailB ?_
  refine hKn _ _ ?_
  obtain ⟨g9, hg9, h1, h2, h3⟩ : ∃ g9, Is a9 100 g9 ∧ g9 9 = .pointer (some ⟨w3.heap.size, 0, none⟩) ∧ g9 13 = .pointer (some ⟨w5.heap.size, 0, none⟩) ∧ g9 4 = .pointer (some ⟨w.heap.size + 1, 0, none⟩) := ⟨_, ha9, rfl, rfl, rfl⟩
  rw [ed]
  generalize hb9 : a9.put (some 15) (.int .i64 (8193 + ab x + ab y)) = b9
  have hb := hb9 ▸ hg9.put (d := 15) (by decide) (.int .i64 (8193 + ab x + ab y))
  clear hb9 ed hKQ ha9
  have KHN5 := hid (HN5.out.next hC)
  have KHU5 := hid (HU5.out.next hC)
  have KHZ5 := hid (HZ5.out.next hC)
  have HB9 := hid (below_next HB5.out hC)
  clear hC LHN5 LHP5 LHU5 LHZ5
  have q1 : upd g9 15 (.int .i64 (8193 + ab x + ab y)) 9 = .pointer (some ⟨w3.heap.size, 0, none⟩) := (upd_ne _ _ (by decide)).trans h1
  have q2 : upd g9 15 (.int .i64 (8193 + ab x + ab y)) 13 = .pointer (some ⟨w5.heap.size, 0, none⟩) := (upd_ne _ _ (by decide)).trans h2
  have q3 : upd g9 15 (.int .i64 (8193 + ab x + ab y)) 4 = .pointer (some ⟨w.heap.size + 1, 0, none⟩) := (upd_ne _ _ (by decide)).trans h3
  have q4 : upd g9 15 (.int .i64 (8193 + ab x + ab y)) 15 = .int .i64 (8193 + ab x + ab y) := upd_at _ _ _
  generalize upd g9 15 (.int .i64 (8193 + ab x + ab y)) = f9 at hb q1 q2 q3 q4
  clear h1 h2 h3 hg9
  have i1 := hb.pin 9 q1
  have i2 := i1.pin 13 ((upd_ne _ _ (by decide)).trans q2)
  have i3 := i2.pin 4 ((upd_ne _ _ (by decide)).trans ((upd_ne _ _ (by decide)).trans q3))
  have i4 := i3.pin 15 ((upd_ne _ _ (by decide)).trans ((upd_ne _ _ (by decide)).trans ((upd_ne _ _ (by decide)).trans q4)))
  clear i1 i2 i3 hb q1 q2 q3 q4
  go_upto_region 10 with fail
  rename_i Km hKm
  refine wp_region_fan 36 1000 (Over w9) (by kernel_rfl) (by kernel_rfl) (Over.start w9) ?_
  simp only [List.take_succ_cons, List.take_zero, List.drop_succ_cons, List.drop_zero]
  have LHN5 := fun b w1 (h : Over w9 b w1) => h.var KHN5.out
  have LHU5 := fun b w1 (h : Over w9 b w1) => h.var KHU5.out
  have LHZ5 := fun b w1 (h : Over w9 b w1) => h.var KHZ5.out
  have M1 : IntKind.i64.wrap (u0 - z0) = u0 - z0 := wrap_id (by omega)
  have M2 : IntKind.i64.wrap (u1 - z1) = u1 - z1 := wrap_id (by omega)
  have R1 : IntKind.i64.wrap (8192 * ab (u0 - z0)) ≤ IntKind.i64.wrap (IntKind.i64.wrap (8193 + ab x + ab y + ab a') + ab c') := by
    have := ab_bd (x := u0 - z0) (m := 70000) (by omega)
    rw [wrap_id (z := 8192 * ab (u0 - z0)) (by omega), wrap_id (z := 8193 + ab x + ab y + ab a') (by omega), wrap_id (by omega)]
    omega
  have R2 : IntKind.i64.wrap (8192 * ab (u1 - z1)) ≤ IntKind.i64.wrap (IntKind.i64.wrap (8193 + ab x + ab y + ab b') + ab d') := by
    have := ab_bd (x := u1 - z1) (m := 70000) (by omega)
    rw [wrap_id (z := 8192 * ab (u1 - z1)) (by omega), wrap_id (z := 8193 + ab x + ab y + ab b') (by omega), wrap_id (by omega)]
    omega
  refine WalksE.sound _ _ _ _ ?_ i4
  refine walks_with fun KQ hKQ => ?_
  (refine walks_one fun K hK => ?_); refine st_pure rfl rfl (fun _ => rfl) ?_; refine hK _ ?_; clear hK K
  (refine walks_one fun K hK => ?_); refine st_load LHU5 rfl rfl rfl rfl ?_; refine hK _ ?_; clear hK K
  (refine walks_one fun K hK => ?_); refine st_pure rfl rfl (fun _ => rfl) ?_; refine hK _ ?_; clear hK K
  (refine walks_one fun K hK => ?_); refine st_load LHZ5 rfl rfl rfl rfl ?_; refine hK _ ?_; clear hK K
  (refine walks_one fun K hK => ?_); refine st_pure rfl rfl (fun _ => rfl) ?_; refine hK _ ?_; clear hK K
  (refine walks_one fun K hK => ?_); refine st_call rfl rfl (fun _ => run_call13 rfl) (fun _ _ h => size_over h rfl M1 (by omega)) ?_; refine hK _ ?_; clear hK K
  (refine walks_one fun K hK => ?_); refine st_pure rfl rfl (fun _ => rfl) ?_; refine hK _ ?_; clear hK K
  (refine walks_one fun K hK => ?_); refine st_pure rfl rfl (fun _ => rfl) ?_; refine hK _ ?_; clear hK K
  (refine walks_one fun K hK => ?_); refine st_pure rfl rfl (fun _ => rfl) ?_; refine hK _ ?_; clear hK K
  (refine walks_one fun K hK => ?_); refine st_load LHN5 rfl rfl rfl rfl ?_; refine hK _ ?_; clear hK K
  (refine walks_one fun K hK => ?_); refine st_call rfl rfl (fun _ => run_call13 rfl) (fun _ _ h => size_over h rfl rfl (by omega)) ?_; refine hK _ ?_; clear hK K
  (refine walks_one fun K hK => ?_); refine st_pure rfl rfl (fun _ => rfl) ?_; refine hK _ ?_; clear hK K
  (refine walks_one fun K hK => ?_); refine st_pure rfl rfl (fun _ => rfl) ?_; refine hK _ ?_; clear hK K
  (refine walks_one fun K hK => ?_); refine st_load LHN5 rfl rfl rfl rfl ?_; refine hK _ ?_; clear hK K
  (refine walks_one fun K hK => ?_); refine st_call rfl rfl (fun _ => run_call13 rfl) (fun _ _ h => size_over h rfl rfl (by omega)) ?_; refine hK _ ?_; clear hK K
  (refine walks_one fun K hK => ?_); refine st_pure rfl rfl (fun _ => rfl) ?_; refine hK _ ?_; clear hK K
  (refine walks_one fun K hK => ?_); refine st_pure rfl rfl (fun _ => run_leq rfl rfl R1) ?_; refine hK _ ?_; clear hK K
  (refine walks_one fun K hK => ?_); refine st_pure rfl rfl (fun _ => rfl) ?_; refine hK _ ?_; clear hK K
  (refine walks_one fun K hK => ?_); refine st_pure rfl rfl (fun _ => rfl) ?_; refine hK _ ?_; clear hK K
  (refine walks_one fun K hK => ?_); refine st_load LHU5 rfl rfl rfl rfl ?_; refine hK _ ?_; clear hK K
  (refine walks_one fun K hK => ?_); refine st_pure rfl rfl (fun _ => rfl) ?_; refine hK _ ?_; clear hK K
  (refine walks_one fun K hK => ?_); refine st_load LHZ5 rfl rfl rfl rfl ?_; refine hK _ ?_; clear hK K
  (refine walks_one fun K hK => ?_); refine st_pure rfl rfl (fun _ => rfl) ?_; refine hK _ ?_; clear hK K
  (refine walks_one fun K hK => ?_); refine st_call rfl rfl (fun _ => run_call13 rfl) (fun _ _ h => size_over h rfl M2 (by omega)) ?_; refine hK _ ?_; clear hK K
  (refine walks_one fun K hK => ?_); refine st_pure rfl rfl (fun _ => rfl) ?_; refine hK _ ?_; clear hK K
  (refine walks_one fun K hK => ?_); refine st_pure rfl rfl (fun _ => rfl) ?_; refine hK _ ?_; clear hK K
  (refine walks_one fun K hK => ?_); refine st_pure rfl rfl (fun _ => rfl) ?_; refine hK _ ?_; clear hK K
  (refine walks_one fun K hK => ?_); refine st_load LHN5 rfl rfl rfl rfl ?_; refine hK _ ?_; clear hK K
  (refine walks_one fun K hK => ?_); refine st_call rfl rfl (fun _ => run_call13 rfl) (fun _ _ h => size_over h rfl rfl (by omega)) ?_; refine hK _ ?_; clear hK K
  (refine walks_one fun K hK => ?_); refine st_pure rfl rfl (fun _ => rfl) ?_; refine hK _ ?_; clear hK K
  (refine walks_one fun K hK => ?_); refine st_pure rfl rfl (fun _ => rfl) ?_; refine hK _ ?_; clear hK K
  (refine walks_one fun K hK => ?_); refine st_load LHN5 rfl rfl rfl rfl ?_; refine hK _ ?_; clear hK K
  (refine walks_one fun K hK => ?_); refine st_call rfl rfl (fun _ => run_call13 rfl) (fun _ _ h => size_over h rfl rfl (by omega)) ?_; refine hK _ ?_; clear hK K
  (refine walks_one fun K hK => ?_); refine st_pure rfl rfl (fun _ => rfl) ?_; refine hK _ ?_; clear hK K
  (refine walks_one fun K hK => ?_); refine st_pure rfl rfl (fun _ => run_leq rfl rfl R2) ?_; refine hK _ ?_; clear hK K
  (refine walks_one fun K hK => ?_); refine st_pure rfl rfl (fun _ => rfl) ?_; refine hK _ ?_; clear hK K
  refine walks_end fun a8 ha8 => hKQ _ fun w8 hC => ?_
  have e99 : a8.eval (.tmp 99) = .bool true := by rw [ha8.eval]; rfl
  refine tailB ?_
  refine hKm _ _ (wp_ret ?_)
  refine retB_is (ha8.put (d := 6) (by decide) _) Try.results3 ((upd_at _ _ _).trans e99) ?_
  exact And.intro rfl (below_next HB9.out hC)

theorem rest (a b c d e f a' b' c' d' e' f' x y : Int) (w : World) :
    Calls Try.prog 3 #[mx a b c d e f, mx a' b' c' d' e' f', pt x y] w fun r w' => r = .returned (.bool true) ∧ Below w.heap.size w w' := by
  obtain ⟨o0, o1, o2, o3, o4, o5, r0, hT⟩ : ∃ v0 v1 v2 v3 v4 v5 r, ThenIs a b c d e f a' b' c' d' e' f' (mx v0 v1 v2 v3 v4 v5) r := MapIs.mk' ..
  obtain ⟨u0, u1, r1, hA⟩ : ∃ v0 v1 r, AppIs o0 o1 o2 o3 o4 o5 x y (pt v0 v1) r := PtIs.mk' ..
  obtain ⟨q0, q1, r2, hQ⟩ : ∃ v0 v1 r, AppIs a b c d e f x y (pt v0 v1) r := PtIs.mk' ..
  obtain ⟨z0, z1, r3, hZ⟩ : ∃ v0 v1 r, AppIs a' b' c' d' e' f' q0 q1 (pt v0 v1) r := PtIs.mk' ..
  by_cases h0 : r0 = 0
  · subst h0
    by_cases h1 : r1 = 0
    · subst h1
      by_cases h2 : r2 = 0
      · subst h2
        by_cases h3 : r3 = 0
        · subst h3
          exact all0 _ _ _ _ _ _ _ _ _ _ _ _ _ _ _ _ _ _ _ _ _ _ _ _ _ _ w hT hA hQ hZ
        · exact early3 _ _ _ _ _ _ _ _ _ _ _ _ _ _ _ _ _ _ _ _ _ _ _ _ _ _ _ w hT hA hQ hZ h3
      · exact early2 _ _ _ _ _ _ _ _ _ _ _ _ _ _ _ _ _ _ _ _ _ _ _ _ _ _ _ _ w hT hA hQ hZ h2
    · exact early1 _ _ _ _ _ _ _ _ _ _ _ _ _ _ _ _ _ _ _ _ _ _ _ _ _ _ _ _ _ w hT hA hQ hZ h1
  · exact early0 _ _ _ _ _ _ _ _ _ _ _ _ _ _ _ _ _ _ _ _ _ _ _ _ _ _ _ _ _ _ w hT hA hQ hZ h0

set_option maxRecDepth 100000 in
theorem lifted (os : Os) (started : os.Started) (H : Type) (enc : TypeId × Value → H) :
    ReturnsInHanded {} Try.checked os 3 .any (Rows.affineThenBoundSpec.pre6 enc Try.prog Try.f3 Rows.affineThenBoundRow.domain false) (Rows.affineThenBoundSpec.post enc Try.prog Try.f3 false true false false) := by
  refine returnsInHanded_of_change (C := Try.checked) own started (by kernel_rfl) Try.func3
    (ChangeSpec.witness6 (enc := enc) (C := Try.checked) false ⟨#[], #[.agg #[.int .i64 0, .int .i64 0, .int .i64 0, .int .i64 0, .int .i64 0, .int .i64 0], .agg #[.int .i64 0, .int .i64 0, .int .i64 0, .int .i64 0, .int .i64 0, .int .i64 0], .agg #[.int .i64 0, .int .i64 0]], []⟩ 8 (by kernel_rfl) (by kernel_rfl) (by kernel_rfl) (by kernel_rfl)) ?_
  intro W base args ds gs before hval0 hW hcnd _
  have hval : ∀ (j : Nat) t v, Try.f3.params[j]? = some t → args[j]? = some v → Value.okWide Try.prog W .any base t v := hval0
  have hW' := hW
  obtain ⟨p, q, hA0, hV, rfl, hfz, hnd⟩ := hW
  have hA : DataW.TrodAll enc Try.prog W 0 (fun _ => true) true Try.f3.params.toList args.toList ds p := hA0
  rw [Try.params3] at hA hval
  obtain ⟨v0, vs0, d0, ds0, p0, q0, hargs, rfl, rfl, h0, r0⟩ := trodAll_cons hA
  obtain ⟨v1, vs1, d1, ds1, p1, q1, rfl, rfl, rfl, h1, r1⟩ := trodAll_cons r0
  obtain ⟨v2, vs2, d2, ds2, p2, q2, rfl, rfl, rfl, h2, r2⟩ := trodAll_cons r1
  obtain ⟨rfl, rfl, rfl⟩ := trodAll_nil r2
  obtain rfl : args = #[v0, v1, v2] := by cases args; simp_all
  obtain ⟨rfl, rfl⟩ := trodVars_none hV
  have k0 := h0
  have lt0 : ∀ x ∈ p0, x.block < W.heap.size := by obtain ⟨m, hm⟩ := k0; exact DataW.trod_lt m _ _ _ hm
  obtain ⟨x0_0, x0_1, x0_2, x0_3, x0_4, x0_5, rfl⟩ := open_mx Try.underlying23 (by kernel_rfl) (by kernel_rfl) (by kernel_rfl) (hval 0 23 v0 rfl rfl) h0
  have k1 := h1
  have lt1 : ∀ x ∈ p1, x.block < W.heap.size := by obtain ⟨m, hm⟩ := k1; exact DataW.trod_lt m _ _ _ hm
  obtain ⟨x1_0, x1_1, x1_2, x1_3, x1_4, x1_5, rfl⟩ := open_mx Try.underlying23 (by kernel_rfl) (by kernel_rfl) (by kernel_rfl) (hval 1 23 v1 rfl rfl) h1
  have k2 := h2
  have lt2 : ∀ x ∈ p2, x.block < W.heap.size := by obtain ⟨m, hm⟩ := k2; exact DataW.trod_lt m _ _ _ hm
  obtain ⟨x2_0, x2_1, rfl⟩ := open_pt Try.underlying25 (by kernel_rfl) (by kernel_rfl) (by kernel_rfl) (hval 2 25 v2 rfl rfl) h2
  clear hA0 hval0
  refine (rest x0_0 x0_1 x0_2 x0_3 x0_4 x0_5 x1_0 x1_1 x1_2 x1_3 x1_4 x1_5 x2_0 x2_1 W).mono fun e W' ⟨he, bel⟩ => ?_
  subst he
  exact ⟨_, rfl, _, _, _, [], _, [], hW', trodAll_mk1 (shut_bool Try.underlying4 _), (trodAll_cons_mk (Below.trod laidOut (by kernel_rfl) (of_decide_eq_true (by kernel_rfl)) k0 bel lt0) (trodAll_cons_mk (Below.trod laidOut (by kernel_rfl) (of_decide_eq_true (by kernel_rfl)) k1 bel lt1) (trodAll_cons_mk (Below.trod laidOut (by kernel_rfl) (of_decide_eq_true (by kernel_rfl)) k2 bel lt2) trodAll_mk0))), rfl, bel.frame _, fun h => by cases h⟩

theorem over : Rows.affineThenBoundRow.holds Try.pinned (OpenSpec.ofChange Rows.affineThenBoundSpec) :=
  OpenClaim.holds_of_wide 3 Try.f3 rfl rfl rfl rfl rfl rfl rfl ⟨rfl, rfl, rfl, rfl, rfl⟩ rfl rfl rfl rfl rfl (by kernel_rfl) Try.func3 (by kernel_rfl)
    (of_decide_eq_true (by kernel_rfl)) (by unfold Func.isWrapper; first | (rw [if_pos (by decide +kernel)]; kernel_rfl) | (rw [if_neg (by decide +kernel)]; exact ⟨rfl, rfl⟩))
    (fun os started H enc _ => lifted os started H enc)

/-- The statement. -/
theorem proved : Rows.AffineThenBoundSaid := over
end Go.Proofs.Ytdelhelfphblcaa.affineThenBound
