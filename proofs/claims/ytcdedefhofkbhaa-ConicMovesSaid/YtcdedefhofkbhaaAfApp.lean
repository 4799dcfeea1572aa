/- What Apply of package affine returns. -/
import Derived.Test.YtcdedefhofkbhaaAfCls
namespace Go.Proofs.Ytcdedefhofkbhaa.Af
open Go Go.RowKit
set_option linter.unusedVariables false
set_option maxRecDepth 100000

theorem app_bad1 (a b c d e f x y : Int) (w : World) (hm : ¬ Good a b c d e f) :
    Calls Try.prog 20 #[mx a b c d e f, pt x y] w fun r w' => r = .returned (.tuple #[pt 0 0, .int .i64 3]) ∧ Below w.heap.size w w' := by
  have HM := hid hm
  clear hm
  obtain ⟨A, hA⟩ : ∃ A, A = w.alloc (.cells #[.int .i64 a, .int .i64 b, .int .i64 c, .int .i64 d, .int .i64 e, .int .i64 f] 48) := ⟨_, rfl⟩
  obtain ⟨B, hB⟩ : ∃ B, B = A.alloc (.cells #[.int .i64 x, .int .i64 y] 23) := ⟨_, rfl⟩
  obtain ⟨Z, hZ⟩ : ∃ Z, Z = B.alloc (.cells #[.int .i64 0, .int .i64 0] 23) := ⟨_, rfl⟩
  have HV0 := hid (show Var Z w.heap.size _ _ by rw [hZ, hB, hA]; exact ((Var.new _ _ _ _ rfl).alloc _).alloc _)
  have HV1 := hid (show Var Z (w.heap.size + 1) _ _ by rw [hZ, hB]; exact (Var.new A _ _ _ (by rw [hA]; simp)).alloc _)
  have HV2 := hid (show Var Z (w.heap.size + 2) _ _ by rw [hZ]; exact Var.new B _ _ _ (by rw [hB, hA]; simp))
  have HB0 := hid (show Below w.heap.size w Z by rw [hZ, hB, hA]; exact below_alloc (below_alloc (below_alloc (Below.refl _ w) _) _) _)
  go_enter Try.func20, Try.ntmps20
  go_upto_region 1 with fail
  rw [← hA, ← hB, ← hZ]
  clear hZ hB hA
  obtain ⟨p0, p1, p2, p3, p4, p5, pf⟩ := HV0.out.read6
  go_wp2_with fail
  clear p0 p1 p2 p3 p4 p5 pf
  (with_reducible refine (chk_bad _ _ _ _ _ _ _ HM.out).mono ?_); rintro x0 w1 ⟨rfl, hb⟩
  have HV01 := hid (HV0.out.next hb)
  have HV11 := hid (HV1.out.next hb)
  have HV21 := hid (HV2.out.next hb)
  have HB1 := hid (below_next HB0.out hb)
  clear hb HV0 HV1 HV2 HB0
  obtain ⟨p0, p1, pf⟩ := HV21.out.read2
  go_wp2_with fail
  exact ret2n Try.results20 rfl rfl HV21.out.set2 ⟨rfl, below_set2 HB1.out (by omega)⟩

theorem app_bad2 (a b c d e f x y : Int) (w : World) (hm : Good a b c d e f) (hp : ¬ Wi 32767 [x, y]) :
    Calls Try.prog 20 #[mx a b c d e f, pt x y] w fun r w' => r = .returned (.tuple #[pt 0 0, .int .i64 3]) ∧ Below w.heap.size w w' := by
  have HM := hid hm
  have HP := hid hp
  clear hm hp
  obtain ⟨A, hA⟩ : ∃ A, A = w.alloc (.cells #[.int .i64 a, .int .i64 b, .int .i64 c, .int .i64 d, .int .i64 e, .int .i64 f] 48) := ⟨_, rfl⟩
  obtain ⟨B, hB⟩ : ∃ B, B = A.alloc (.cells #[.int .i64 x, .int .i64 y] 23) := ⟨_, rfl⟩
  obtain ⟨Z, hZ⟩ : ∃ Z, Z = B.alloc (.cells #[.int .i64 0, .int .i64 0] 23) := ⟨_, rfl⟩
  have HV0 := hid (show Var Z w.heap.size _ _ by rw [hZ, hB, hA]; exact ((Var.new _ _ _ _ rfl).alloc _).alloc _)
  have HV1 := hid (show Var Z (w.heap.size + 1) _ _ by rw [hZ, hB]; exact (Var.new A _ _ _ (by rw [hA]; simp)).alloc _)
  have HV2 := hid (show Var Z (w.heap.size + 2) _ _ by rw [hZ]; exact Var.new B _ _ _ (by rw [hB, hA]; simp))
  have HB0 := hid (show Below w.heap.size w Z by rw [hZ, hB, hA]; exact below_alloc (below_alloc (below_alloc (Below.refl _ w) _) _) _)
  go_enter Try.func20, Try.ntmps20
  go_upto_region 1 with fail
  rw [← hA, ← hB, ← hZ]
  clear hZ hB hA
  obtain ⟨p0, p1, p2, p3, p4, p5, pf⟩ := HV0.out.read6
  go_wp2_with fail
  clear p0 p1 p2 p3 p4 p5 pf
  (with_reducible refine (chk_good _ _ _ _ _ _ _ HM.out).mono ?_); rintro x0 w1 ⟨rfl, hb⟩
  have HV01 := hid (HV0.out.next hb)
  have HV11 := hid (HV1.out.next hb)
  have HV21 := hid (HV2.out.next hb)
  have HB1 := hid (below_next HB0.out hb)
  clear hb HV0 HV1 HV2 HB0
  obtain ⟨p0, p1, pf⟩ := HV11.out.read2
  go_wp2_with fail
  clear p0 p1 pf
  (with_reducible refine (within2 false 32767 x y _ _ _ (by omega) (iff_of_false Bool.false_ne_true HP.out) (Var.new _ _ _ _ (by simp)).lies2).mono ?_); rintro x0 w2 ⟨rfl, hw⟩
  have HV02 := hid (show Var w2 _ _ _ by rw [← hw]; exact HV01.out.alloc _)
  have HV12 := hid (show Var w2 _ _ _ by rw [← hw]; exact HV11.out.alloc _)
  have HV22 := hid (show Var w2 _ _ _ by rw [← hw]; exact HV21.out.alloc _)
  have HB2 := hid (show Below _ _ w2 by rw [← hw]; exact below_alloc HB1.out _)
  clear hw HV01 HV11 HV21 HB1
  obtain ⟨p0, p1, pf⟩ := HV22.out.read2
  go_wp2_with fail
  exact ret2n Try.results20 rfl rfl HV22.out.set2 ⟨rfl, below_set2 HB2.out (by omega)⟩

set_option maxHeartbeats 1000000 in
theorem app_ok (a b c d e f x y v0 v1 r : Int) (w : World) (hm : Good a b c d e f) (hp : Wi 32767 [x, y]) (hi : PtIs 0 (rnd (a * x + c * y + e) 4096) (rnd (b * x + d * y + f) 4096) (pt v0 v1) r) :
    Calls Try.prog 20 #[mx a b c d e f, pt x y] w fun r' w' => r' = .returned (.tuple #[pt v0 v1, .int .i64 r]) ∧ Below w.heap.size w w' := by
  have HM := hid hm
  have HP := hid hp
  obtain ⟨hm1, hm2⟩ := hm
  obtain ⟨ba, bb, bc, bd⟩ := wi4.1 hm1
  obtain ⟨be, bf⟩ := wi2.1 hm2
  obtain ⟨bx, by'⟩ := wi2.1 hp
  have S1 : Sm (a * x) := by have := mulb ba bx; unfold Sm; omega
  have S2 : Sm (c * y) := by have := mulb bc by'; unfold Sm; omega
  have S3 : Sm e := by unfold Sm; omega
  have S4 : Sm (b * x) := by have := mulb bb bx; unfold Sm; omega
  have S5 : Sm (d * y) := by have := mulb bd by'; unfold Sm; omega
  have S6 : Sm f := by unfold Sm; omega
  have HS := hid (And.intro S1 (And.intro S2 (And.intro S3 (And.intro S4 (And.intro S5 S6)))))
  obtain ⟨X, hX⟩ : ∃ X, X = (rnd (a * x + c * y + e) 4096) := ⟨_, rfl⟩
  obtain ⟨Y, hY⟩ : ∃ Y, Y = (rnd (b * x + d * y + f) 4096) := ⟨_, rfl⟩
  rw [← hX, ← hY] at hi
  have HI := hid hi
  have HXY := hid (And.intro hX hY)
  clear hm1 hm2 ba bb bc bd be bf bx by' S1 S2 S3 S4 S5 S6 hi hp hX hY
  obtain ⟨A, hA⟩ : ∃ A, A = w.alloc (.cells #[.int .i64 a, .int .i64 b, .int .i64 c, .int .i64 d, .int .i64 e, .int .i64 f] 48) := ⟨_, rfl⟩
  obtain ⟨B, hB⟩ : ∃ B, B = A.alloc (.cells #[.int .i64 x, .int .i64 y] 23) := ⟨_, rfl⟩
  obtain ⟨Z, hZ⟩ : ∃ Z, Z = B.alloc (.cells #[.int .i64 0, .int .i64 0] 23) := ⟨_, rfl⟩
  have HV0 := hid (show Var Z w.heap.size _ _ by rw [hZ, hB, hA]; exact ((Var.new _ _ _ _ rfl).alloc _).alloc _)
  have HV1 := hid (show Var Z (w.heap.size + 1) _ _ by rw [hZ, hB]; exact (Var.new A _ _ _ (by rw [hA]; simp)).alloc _)
  have HV2 := hid (show Var Z (w.heap.size + 2) _ _ by rw [hZ]; exact Var.new B _ _ _ (by rw [hB, hA]; simp))
  have HB0 := hid (show Below w.heap.size w Z by rw [hZ, hB, hA]; exact below_alloc (below_alloc (below_alloc (Below.refl _ w) _) _) _)
  go_enter Try.func20, Try.ntmps20
  go_upto_region 1 with fail
  rw [← hA, ← hB, ← hZ]
  clear hZ hB hA
  obtain ⟨p0, p1, p2, p3, p4, p5, pf⟩ := HV0.out.read6
  go_wp2_with fail
  clear p0 p1 p2 p3 p4 p5 pf
  (with_reducible refine (chk_good _ _ _ _ _ _ _ HM.out).mono ?_); rintro x0 w1 ⟨rfl, hb⟩
  have HV01 := hid (HV0.out.next hb)
  have HV11 := hid (HV1.out.next hb)
  have HV21 := hid (HV2.out.next hb)
  have HB1 := hid (below_next HB0.out hb)
  clear hb HV0 HV1 HV2 HB0
  obtain ⟨p0, p1, pf⟩ := HV11.out.read2
  go_wp2_with fail
  clear p0 p1 pf
  (with_reducible refine (within2 true 32767 x y _ _ _ (by omega) (iff_of_true rfl HP.out) (Var.new _ _ _ _ (by simp)).lies2).mono ?_); rintro x0 w2 ⟨rfl, hw⟩
  have HV02 := hid (show Var w2 _ _ _ by rw [← hw]; exact HV01.out.alloc _)
  have HV12 := hid (show Var w2 _ _ _ by rw [← hw]; exact HV11.out.alloc _)
  have HV22 := hid (show Var w2 _ _ _ by rw [← hw]; exact HV21.out.alloc _)
  have HB2 := hid (show Below _ _ w2 by rw [← hw]; exact below_alloc HB1.out _)
  clear hw HV01 HV11 HV21 HB1
  go_wp2_with fail
  rename_i Kn hKn
  refine wp_region_fan 32 31 (Cls w2 (.cells #[.int .i64 0, .int .i64 0] 23)) (by kernel_rfl) (by kernel_rfl) (Cls.start w2 _) ?_
  simp only [List.take_succ_cons, List.take_zero, List.drop_succ_cons, List.drop_zero]
  have L0 := fun b w1 (h : Cls w2 (.cells #[.int .i64 0, .int .i64 0] 23) b w1) => h.var HV02.out
  have L1 := fun b w1 (h : Cls w2 (.cells #[.int .i64 0, .int .i64 0] 23) b w1) => h.var HV12.out
  refine WalksE.sound _ _ _ _ ?_ ((((Is.start _ (n := 62) rfl).pin 2 (v := .pointer (some ⟨w.heap.size, 0, none⟩)) rfl).pin 3 (v := .pointer (some ⟨w.heap.size + 1, 0, none⟩)) rfl).pin 4 (v := .pointer (some ⟨w.heap.size + 1 + 1, 0, none⟩)) rfl)
  generalize (fun i => Array.getD _ i undef) = g
  refine walks_with fun KQ hKQ => ?_
  obtain ⟨S1, S2, S3, S4, S5, S6⟩ := HS.out
  iterate 14 ((refine walks_one fun K hK => ?_); (first | refine st_load L0 rfl rfl rfl rfl ?_ | refine st_load L1 rfl rfl rfl rfl ?_ | refine st_pure rfl rfl (fun _ => rfl) ?_); refine hK _ ?_; clear hK K)
  (refine walks_one fun K hK => ?_); refine st_call rfl rfl (fun _ => run_call27 rfl) (fun _ _ h => round_cls h rfl S1 S2 S3 rfl) ?_; refine hK _ ?_; clear hK K
  iterate 14 ((refine walks_one fun K hK => ?_); (first | refine st_load L0 rfl rfl rfl rfl ?_ | refine st_load L1 rfl rfl rfl rfl ?_ | refine st_pure rfl rfl (fun _ => rfl) ?_); refine hK _ ?_; clear hK K)
  (refine walks_one fun K hK => ?_); refine st_call rfl rfl (fun _ => run_call27 rfl) (fun _ _ h => round_cls h rfl S4 S5 S6 rfl) ?_; refine hK _ ?_; clear hK K
  (refine walks_one fun K hK => ?_); refine st_pure rfl rfl (fun _ => run_build2 rfl rfl) ?_; refine hK _ ?_; clear hK K
  (refine walks_one fun K hK => ?_); refine st_alloc25 rfl rfl ?_; refine hK _ ?_; clear hK K
  refine walks_end fun a9 ha9 => hKQ _ fun w3 hC => ?_
  have e7 : a9.eval (.tmp 7) = .pointer (some ⟨w2.heap.size, 0, none⟩) := by rw [ha9.eval]; rfl
  have e52 : a9.eval (.tmp 52) = pt (rnd (a * x + c * y + e) 4096) (rnd (b * x + d * y + f) 4096) := by rw [ha9.eval]; rfl
  rw [← HXY.out.1, ← HXY.out.2] at e52
  refine tail2s e7 e52 (Cls.new hC) ?_
  refine hKn _ _ ?_
  obtain ⟨g9, hg9, h4, h7⟩ : ∃ g9, Is a9 62 g9 ∧ g9 4 = .pointer (some ⟨w.heap.size + 1 + 1, 0, none⟩) ∧ g9 7 = .pointer (some ⟨w2.heap.size, 0, none⟩) := ⟨_, ha9, rfl, rfl⟩
  have hw := hg9.whole
  rw [show ((List.range 62).map g9).toArray = #[g9 0, g9 1, g9 2, g9 3, g9 4, g9 5, g9 6, g9 7, g9 8, g9 9, g9 10, g9 11, g9 12, g9 13, g9 14, g9 15, g9 16, g9 17, g9 18, g9 19, g9 20, g9 21, g9 22, g9 23, g9 24, g9 25, g9 26, g9 27, g9 28, g9 29, g9 30, g9 31, g9 32, g9 33, g9 34, g9 35, g9 36, g9 37, g9 38, g9 39, g9 40, g9 41, g9 42, g9 43, g9 44, g9 45, g9 46, g9 47, g9 48, g9 49, g9 50, g9 51, g9 52, g9 53, g9 54, g9 55, g9 56, g9 57, g9 58, g9 59, g9 60, g9 61] from rfl] at hw
  rw [h4, h7] at hw
  have HVR := hid (HV22.out.next hC.below)
  have HVI := hid (Cls.new hC)
  have HB3 := hid (below_next HB2.out hC.below)
  have N1 := HV22.out.lt
  clear hC
  subst hw
  clear ha9 hg9 h4 h7 e7 e52 L0 L1 hKQ HS KQ HV02 HV12
  generalize hw4 : (w3.setCell ⟨w2.heap.size, 0, none⟩ (.int .i64 X)).setCell ⟨w2.heap.size, 1, none⟩ (.int .i64 Y) = w4
  have V1 : Var w4 w2.heap.size _ _ := hw4 ▸ HVI.out.set2 (p := .int .i64 X) (q := .int .i64 Y)
  have V2 : Var w4 (w.heap.size + 2) _ _ := hw4 ▸ (HVR.out.far (p := ⟨w2.heap.size, 0, none⟩) (by show w.heap.size + 2 ≠ w2.heap.size; omega) _).far (p := ⟨w2.heap.size, 1, none⟩) (by show w.heap.size + 2 ≠ w2.heap.size; omega) _
  have B4 : Below w.heap.size w w4 := hw4 ▸ below_set2 HB3.out (by omega)
  clear hw4 HVI HVR HB3
  have HVI := hid V1
  have HVR := hid V2
  have HB4 := hid B4
  clear V1 V2 B4 N1 HV22 HB2
  obtain ⟨q0, q1, qf⟩ := HVI.out.read2
  go_wp2_with fail
  clear q0 q1 qf
  by_cases hin : Wi 32767 [X, Y]
  · obtain ⟨e1, rfl⟩ := HI.out.good rfl hin
    (with_reducible refine (within2 true 32767 X Y _ _ _ (by omega) (iff_of_true rfl hin) (Var.new _ _ _ _ (by simp)).lies2).mono ?_); rintro x0 w5 ⟨rfl, hw⟩
    have HI5 := hid (show Var w5 _ _ _ by rw [← hw]; exact HVI.out.alloc _)
    have HR5 := hid (show Var w5 _ _ _ by rw [← hw]; exact HVR.out.alloc _)
    have HB5 := hid (show Below _ _ w5 by rw [← hw]; exact below_alloc HB4.out _)
    clear hw HVI HVR HB4
    obtain ⟨q0, q1, qf⟩ := HI5.out.read2
    obtain ⟨p0, p1, pf⟩ := HR5.out.read2
    go_wp2_with fail
    exact ret2n Try.results20 rfl rfl HR5.out.set2 ⟨by rw [e1], below_set2 HB5.out (by omega)⟩
  · obtain ⟨e1, rfl⟩ := HI.out.over rfl hin
    (with_reducible refine (within2 false 32767 X Y _ _ _ (by omega) (iff_of_false Bool.false_ne_true hin) (Var.new _ _ _ _ (by simp)).lies2).mono ?_); rintro x0 w5 ⟨rfl, hw⟩
    have HI5 := hid (show Var w5 _ _ _ by rw [← hw]; exact HVI.out.alloc _)
    have HR5 := hid (show Var w5 _ _ _ by rw [← hw]; exact HVR.out.alloc _)
    have HB5 := hid (show Below _ _ w5 by rw [← hw]; exact below_alloc HB4.out _)
    clear hw HVI HVR HB4
    obtain ⟨q0, q1, qf⟩ := HI5.out.read2
    obtain ⟨p0, p1, pf⟩ := HR5.out.read2
    go_wp2_with fail
    exact ret2n Try.results20 rfl rfl HR5.out.set2 ⟨by rw [e1], below_set2 HB5.out (by omega)⟩

theorem app_any (a b c d e f x y v0 v1 r : Int) (w : World) (h : AppIs a b c d e f x y (pt v0 v1) r) :
    Calls Try.prog 20 #[mx a b c d e f, pt x y] w fun r' w' => r' = .returned (.tuple #[pt v0 v1, .int .i64 r]) ∧ Below w.heap.size w w' := by
  unfold AppIs at h
  by_cases hm : Good a b c d e f
  · by_cases hp : Wi 32767 [x, y]
    · rw [if_pos ⟨hm, hp⟩] at h
      exact app_ok _ _ _ _ _ _ _ _ _ _ _ w hm hp h
    · rw [if_neg fun k => hp k.2] at h
      obtain ⟨h1, rfl⟩ := h.bad (by decide)
      rw [h1]
      exact app_bad2 _ _ _ _ _ _ _ _ w hm hp
  · rw [if_neg fun k => hm k.1] at h
    obtain ⟨h1, rfl⟩ := h.bad (by decide)
    rw [h1]
    exact app_bad1 _ _ _ _ _ _ _ _ w hm

end Go.Proofs.Ytcdedefhofkbhaa.Af
