/- What Then of the reference returns. -/
import Derived.Test.YtdelhelfphblcaaCls
import Derived.Test.YtdelhelfphblcaaThen
namespace Go.Proofs.Ytdelhelfphblcaa
open Go Go.RowKit
set_option linter.unusedVariables false

theorem rthen_bad1 (a b c d e f a' b' c' d' e' f' : Int) (w : World) (hm : ¬ Good a b c d e f) :
    Calls Try.prog 24 #[mx a b c d e f, mx a' b' c' d' e' f'] w fun x w' => x = .returned (.tuple #[mx 0 0 0 0 0 0, .int .i64 3]) ∧ Below w.heap.size w w' := by
  have HM := hid hm
  clear hm
  obtain ⟨A, hA⟩ : ∃ A, A = w.alloc (.cells #[.int .i64 a, .int .i64 b, .int .i64 c, .int .i64 d, .int .i64 e, .int .i64 f] 23) := ⟨_, rfl⟩
  obtain ⟨B, hB⟩ : ∃ B, B = A.alloc (.cells #[.int .i64 a', .int .i64 b', .int .i64 c', .int .i64 d', .int .i64 e', .int .i64 f'] 23) := ⟨_, rfl⟩
  obtain ⟨Z, hZ⟩ : ∃ Z, Z = B.alloc (.cells #[.int .i64 0, .int .i64 0, .int .i64 0, .int .i64 0, .int .i64 0, .int .i64 0] 23) := ⟨_, rfl⟩
  have HV0 := hid (show Var Z w.heap.size _ _ by rw [hZ, hB, hA]; exact ((Var.new _ _ _ _ rfl).alloc _).alloc _)
  have HV1 := hid (show Var Z (w.heap.size + 1) _ _ by rw [hZ, hB]; exact (Var.new A _ _ _ (by rw [hA]; simp)).alloc _)
  have HV2 := hid (show Var Z (w.heap.size + 2) _ _ by rw [hZ]; exact Var.new B _ _ _ (by rw [hB, hA]; simp))
  have HB0 := hid (show Below w.heap.size w Z by rw [hZ, hB, hA]; exact below_alloc (below_alloc (below_alloc (Below.refl _ w) _) _) _)
  go_enter Try.func24, Try.ntmps24
  go_upto_region 1 with fail
  rw [← hA, ← hB, ← hZ]
  clear hZ hB hA
  obtain ⟨p0, p1, p2, p3, p4, p5, pf⟩ := HV0.out.read6
  go_wp2_with fail
  clear p0 p1 p2 p3 p4 p5 pf
  (with_reducible refine (mchk_any _ _ _ _ _ _ _).mono ?_); rintro x0 w1 ⟨rfl, hb⟩
  rw [errM_bad HM.out]
  have HV01 := hid (HV0.out.next hb)
  have HV11 := hid (HV1.out.next hb)
  have HV21 := hid (HV2.out.next hb)
  have HB1 := hid (below_next HB0.out hb)
  clear hb HV0 HV1 HV2 HB0
  obtain ⟨p0, p1, p2, p3, p4, p5, pf⟩ := HV21.out.read6
  go_wp2_with fail
  exact ret6n Try.results24 rfl rfl HV21.out.set6 ⟨rfl, below_set6 HB1.out (by omega)⟩

theorem rthen_bad2 (a b c d e f a' b' c' d' e' f' : Int) (w : World) (hm : Good a b c d e f) (hn : ¬ Good a' b' c' d' e' f') :
    Calls Try.prog 24 #[mx a b c d e f, mx a' b' c' d' e' f'] w fun x w' => x = .returned (.tuple #[mx 0 0 0 0 0 0, .int .i64 3]) ∧ Below w.heap.size w w' := by
  have HM := hid hm
  have HN := hid hn
  clear hm hn
  obtain ⟨A, hA⟩ : ∃ A, A = w.alloc (.cells #[.int .i64 a, .int .i64 b, .int .i64 c, .int .i64 d, .int .i64 e, .int .i64 f] 23) := ⟨_, rfl⟩
  obtain ⟨B, hB⟩ : ∃ B, B = A.alloc (.cells #[.int .i64 a', .int .i64 b', .int .i64 c', .int .i64 d', .int .i64 e', .int .i64 f'] 23) := ⟨_, rfl⟩
  obtain ⟨Z, hZ⟩ : ∃ Z, Z = B.alloc (.cells #[.int .i64 0, .int .i64 0, .int .i64 0, .int .i64 0, .int .i64 0, .int .i64 0] 23) := ⟨_, rfl⟩
  have HV0 := hid (show Var Z w.heap.size _ _ by rw [hZ, hB, hA]; exact ((Var.new _ _ _ _ rfl).alloc _).alloc _)
  have HV1 := hid (show Var Z (w.heap.size + 1) _ _ by rw [hZ, hB]; exact (Var.new A _ _ _ (by rw [hA]; simp)).alloc _)
  have HV2 := hid (show Var Z (w.heap.size + 2) _ _ by rw [hZ]; exact Var.new B _ _ _ (by rw [hB, hA]; simp))
  have HB0 := hid (show Below w.heap.size w Z by rw [hZ, hB, hA]; exact below_alloc (below_alloc (below_alloc (Below.refl _ w) _) _) _)
  go_enter Try.func24, Try.ntmps24
  go_upto_region 1 with fail
  rw [← hA, ← hB, ← hZ]
  clear hZ hB hA
  obtain ⟨p0, p1, p2, p3, p4, p5, pf⟩ := HV0.out.read6
  go_wp2_with fail
  clear p0 p1 p2 p3 p4 p5 pf
  (with_reducible refine (mchk_any _ _ _ _ _ _ _).mono ?_); rintro x0 w1 ⟨rfl, hb⟩
  rw [errM_good HM.out]
  have HV01 := hid (HV0.out.next hb)
  have HV11 := hid (HV1.out.next hb)
  have HV21 := hid (HV2.out.next hb)
  have HB1 := hid (below_next HB0.out hb)
  clear hb HV0 HV1 HV2 HB0
  obtain ⟨p0, p1, p2, p3, p4, p5, pf⟩ := HV11.out.read6
  go_wp2_with fail
  clear p0 p1 p2 p3 p4 p5 pf
  (with_reducible refine (mchk_any _ _ _ _ _ _ _).mono ?_); rintro x0 w2 ⟨rfl, hb⟩
  rw [errM_bad HN.out]
  have HV02 := hid (HV01.out.next hb)
  have HV12 := hid (HV11.out.next hb)
  have HV22 := hid (HV21.out.next hb)
  have HB2 := hid (below_next HB1.out hb)
  clear hb HV01 HV11 HV21 HB1
  obtain ⟨p0, p1, p2, p3, p4, p5, pf⟩ := HV22.out.read6
  go_wp2_with fail
  exact ret6n Try.results24 rfl rfl HV22.out.set6 ⟨rfl, below_set6 HB2.out (by omega)⟩

set_option maxHeartbeats 1000000 in
theorem rthen_ok (a b c d e f a' b' c' d' e' f' v0 v1 v2 v3 v4 v5 r : Int) (w : World) (hm : Good a b c d e f) (hn : Good a' b' c' d' e' f')
    (hi : MapIs 0 (rnd (a' * a + c' * b) 4096) (rnd (b' * a + d' * b) 4096) (rnd (a' * c + c' * d) 4096) (rnd (b' * c + d' * d) 4096) (rnd (a' * e + c' * f) 4096 + e') (rnd (b' * e + d' * f) 4096 + f') (mx v0 v1 v2 v3 v4 v5) r) :
    Calls Try.prog 24 #[mx a b c d e f, mx a' b' c' d' e' f'] w fun x w' => x = .returned (.tuple #[mx v0 v1 v2 v3 v4 v5, .int .i64 r]) ∧ Below w.heap.size w w' := by
  have HM := hid hm
  have HN := hid hn
  obtain ⟨hm1, hm2⟩ := hm
  obtain ⟨hn1, hn2⟩ := hn
  obtain ⟨ba, bb, bc, bd⟩ := wi4.1 hm1
  obtain ⟨be, bf⟩ := wi2.1 hm2
  obtain ⟨na, nb, nc, nd⟩ := wi4.1 hn1
  obtain ⟨ne, nf⟩ := wi2.1 hn2
  have S1 : Sm (a' * a) := by have := mulb na ba; unfold Sm; omega
  have S2 : Sm (c' * b) := by have := mulb nc bb; unfold Sm; omega
  have S3 : Sm (b' * a) := by have := mulb nb ba; unfold Sm; omega
  have S4 : Sm (d' * b) := by have := mulb nd bb; unfold Sm; omega
  have S5 : Sm (a' * c) := by have := mulb na bc; unfold Sm; omega
  have S6 : Sm (c' * d) := by have := mulb nc bd; unfold Sm; omega
  have S7 : Sm (b' * c) := by have := mulb nb bc; unfold Sm; omega
  have S8 : Sm (d' * d) := by have := mulb nd bd; unfold Sm; omega
  have S9 : Sm (a' * e) := by have := mulb na be; unfold Sm; omega
  have S10 : Sm (c' * f) := by have := mulb nc bf; unfold Sm; omega
  have S11 : Sm (b' * e) := by have := mulb nb be; unfold Sm; omega
  have S12 : Sm (d' * f) := by have := mulb nd bf; unfold Sm; omega
  have T1 : IntKind.i64.wrap (rnd (a' * e + c' * f) 4096 + e') = rnd (a' * e + c' * f) 4096 + e' := rnd_add (by unfold Sm at S9 S10; omega) (by unfold Sm; omega)
  have T2 : IntKind.i64.wrap (rnd (b' * e + d' * f) 4096 + f') = rnd (b' * e + d' * f) 4096 + f' := rnd_add (by unfold Sm at S11 S12; omega) (by unfold Sm; omega)
  have HS := hid (And.intro S1 (And.intro S2 (And.intro S3 (And.intro S4 (And.intro S5 (And.intro S6 (And.intro S7 (And.intro S8 (And.intro S9 (And.intro S10 (And.intro S11 S12)))))))))))
  obtain ⟨E0, hE0⟩ : ∃ E, rnd (a' * a + c' * b) 4096 = E := ⟨_, rfl⟩
  obtain ⟨E1, hE1⟩ : ∃ E, rnd (b' * a + d' * b) 4096 = E := ⟨_, rfl⟩
  obtain ⟨E2, hE2⟩ : ∃ E, rnd (a' * c + c' * d) 4096 = E := ⟨_, rfl⟩
  obtain ⟨E3, hE3⟩ : ∃ E, rnd (b' * c + d' * d) 4096 = E := ⟨_, rfl⟩
  obtain ⟨E4, hE4⟩ : ∃ E, rnd (a' * e + c' * f) 4096 + e' = E := ⟨_, rfl⟩
  obtain ⟨E5, hE5⟩ : ∃ E, rnd (b' * e + d' * f) 4096 + f' = E := ⟨_, rfl⟩
  rw [hE0, hE1, hE2, hE3, hE4, hE5] at hi
  have HI := hid hi
  have HXY := hid (And.intro hE0 (And.intro hE1 (And.intro hE2 (And.intro hE3 (And.intro (T1.trans hE4) (T2.trans hE5))))))
  clear hm1 hm2 hn1 hn2 ba bb bc bd be bf na nb nc nd ne nf S1 S2 S3 S4 S5 S6 S7 S8 S9 S10 S11 S12 T1 T2 hi hE0 hE1 hE2 hE3 hE4 hE5
  obtain ⟨A, hA⟩ : ∃ A, A = w.alloc (.cells #[.int .i64 a, .int .i64 b, .int .i64 c, .int .i64 d, .int .i64 e, .int .i64 f] 23) := ⟨_, rfl⟩
  obtain ⟨B, hB⟩ : ∃ B, B = A.alloc (.cells #[.int .i64 a', .int .i64 b', .int .i64 c', .int .i64 d', .int .i64 e', .int .i64 f'] 23) := ⟨_, rfl⟩
  obtain ⟨Z, hZ⟩ : ∃ Z, Z = B.alloc (.cells #[.int .i64 0, .int .i64 0, .int .i64 0, .int .i64 0, .int .i64 0, .int .i64 0] 23) := ⟨_, rfl⟩
  have HV0 := hid (show Var Z w.heap.size _ _ by rw [hZ, hB, hA]; exact ((Var.new _ _ _ _ rfl).alloc _).alloc _)
  have HV1 := hid (show Var Z (w.heap.size + 1) _ _ by rw [hZ, hB]; exact (Var.new A _ _ _ (by rw [hA]; simp)).alloc _)
  have HV2 := hid (show Var Z (w.heap.size + 2) _ _ by rw [hZ]; exact Var.new B _ _ _ (by rw [hB, hA]; simp))
  have HB0 := hid (show Below w.heap.size w Z by rw [hZ, hB, hA]; exact below_alloc (below_alloc (below_alloc (Below.refl _ w) _) _) _)
  go_enter Try.func24, Try.ntmps24
  go_upto_region 1 with fail
  rw [← hA, ← hB, ← hZ]
  clear hZ hB hA
  obtain ⟨p0, p1, p2, p3, p4, p5, pf⟩ := HV0.out.read6
  go_wp2_with fail
  clear p0 p1 p2 p3 p4 p5 pf
  (with_reducible refine (mchk_any _ _ _ _ _ _ _).mono ?_); rintro x0 w1 ⟨rfl, hb⟩
  rw [errM_good HM.out]
  have HV01 := hid (HV0.out.next hb)
  have HV11 := hid (HV1.out.next hb)
  have HV21 := hid (HV2.out.next hb)
  have HB1 := hid (below_next HB0.out hb)
  clear hb HV0 HV1 HV2 HB0
  obtain ⟨p0, p1, p2, p3, p4, p5, pf⟩ := HV11.out.read6
  go_wp2_with fail
  clear p0 p1 p2 p3 p4 p5 pf
  (with_reducible refine (mchk_any _ _ _ _ _ _ _).mono ?_); rintro x0 w2 ⟨rfl, hb⟩
  rw [errM_good HN.out]
  have HV02 := hid (HV01.out.next hb)
  have HV12 := hid (HV11.out.next hb)
  have HV22 := hid (HV21.out.next hb)
  have HB2 := hid (below_next HB1.out hb)
  clear hb HV01 HV11 HV21 HB1
  go_wp2_with fail
  rename_i Kn hKn
  refine wp_region_fan 80 79 (Cls w2 (.cells #[.int .i64 0, .int .i64 0, .int .i64 0, .int .i64 0, .int .i64 0, .int .i64 0] 23)) (by kernel_rfl) (by kernel_rfl) (Cls.start w2 _) ?_
  simp only [List.append, List.take_succ_cons, List.take_zero, List.drop_succ_cons, List.drop_zero]
  have L0 := fun b w1 (h : Cls w2 (.cells #[.int .i64 0, .int .i64 0, .int .i64 0, .int .i64 0, .int .i64 0, .int .i64 0] 23) b w1) => h.var HV02.out
  have L1 := fun b w1 (h : Cls w2 (.cells #[.int .i64 0, .int .i64 0, .int .i64 0, .int .i64 0, .int .i64 0, .int .i64 0] 23) b w1) => h.var HV12.out
  refine WalksE.sound _ _ _ _ ?_ ((((Is.start _ (n := 105) rfl).pin 2 (v := .pointer (some ⟨w.heap.size, 0, none⟩)) rfl).pin 3 (v := .pointer (some ⟨w.heap.size + 1, 0, none⟩)) rfl).pin 4 (v := .pointer (some ⟨w.heap.size + 1 + 1, 0, none⟩)) rfl)
  generalize (fun i => Array.getD _ i undef) = g
  refine walks_with fun KQ hKQ => ?_
  obtain ⟨S1, S2, S3, S4, S5, S6, S7, S8, S9, S10, S11, S12⟩ := HS.out
  iterate 11 ((refine walks_one fun K hK => ?_); (first | refine st_load L0 rfl rfl rfl rfl ?_ | refine st_load L1 rfl rfl rfl rfl ?_ | refine st_pure rfl rfl (fun _ => rfl) ?_); refine hK _ ?_; clear hK K)
  (refine walks_one fun K hK => ?_); refine st_call rfl rfl (fun _ => run_call32 rfl) (fun _ _ h => half2_cls h rfl rfl S1 S2 rfl) ?_; refine hK _ ?_; clear hK K
  iterate 11 ((refine walks_one fun K hK => ?_); (first | refine st_load L0 rfl rfl rfl rfl ?_ | refine st_load L1 rfl rfl rfl rfl ?_ | refine st_pure rfl rfl (fun _ => rfl) ?_); refine hK _ ?_; clear hK K)
  (refine walks_one fun K hK => ?_); refine st_call rfl rfl (fun _ => run_call32 rfl) (fun _ _ h => half2_cls h rfl rfl S3 S4 rfl) ?_; refine hK _ ?_; clear hK K
  iterate 11 ((refine walks_one fun K hK => ?_); (first | refine st_load L0 rfl rfl rfl rfl ?_ | refine st_load L1 rfl rfl rfl rfl ?_ | refine st_pure rfl rfl (fun _ => rfl) ?_); refine hK _ ?_; clear hK K)
  (refine walks_one fun K hK => ?_); refine st_call rfl rfl (fun _ => run_call32 rfl) (fun _ _ h => half2_cls h rfl rfl S5 S6 rfl) ?_; refine hK _ ?_; clear hK K
  iterate 11 ((refine walks_one fun K hK => ?_); (first | refine st_load L0 rfl rfl rfl rfl ?_ | refine st_load L1 rfl rfl rfl rfl ?_ | refine st_pure rfl rfl (fun _ => rfl) ?_); refine hK _ ?_; clear hK K)
  (refine walks_one fun K hK => ?_); refine st_call rfl rfl (fun _ => run_call32 rfl) (fun _ _ h => half2_cls h rfl rfl S7 S8 rfl) ?_; refine hK _ ?_; clear hK K
  iterate 11 ((refine walks_one fun K hK => ?_); (first | refine st_load L0 rfl rfl rfl rfl ?_ | refine st_load L1 rfl rfl rfl rfl ?_ | refine st_pure rfl rfl (fun _ => rfl) ?_); refine hK _ ?_; clear hK K)
  (refine walks_one fun K hK => ?_); refine st_call rfl rfl (fun _ => run_call32 rfl) (fun _ _ h => half2_cls h rfl rfl S9 S10 rfl) ?_; refine hK _ ?_; clear hK K
  iterate 3 ((refine walks_one fun K hK => ?_); (first | refine st_load L0 rfl rfl rfl rfl ?_ | refine st_load L1 rfl rfl rfl rfl ?_ | refine st_pure rfl rfl (fun _ => rfl) ?_); refine hK _ ?_; clear hK K)
  iterate 11 ((refine walks_one fun K hK => ?_); (first | refine st_load L0 rfl rfl rfl rfl ?_ | refine st_load L1 rfl rfl rfl rfl ?_ | refine st_pure rfl rfl (fun _ => rfl) ?_); refine hK _ ?_; clear hK K)
  (refine walks_one fun K hK => ?_); refine st_call rfl rfl (fun _ => run_call32 rfl) (fun _ _ h => half2_cls h rfl rfl S11 S12 rfl) ?_; refine hK _ ?_; clear hK K
  iterate 3 ((refine walks_one fun K hK => ?_); (first | refine st_load L0 rfl rfl rfl rfl ?_ | refine st_load L1 rfl rfl rfl rfl ?_ | refine st_pure rfl rfl (fun _ => rfl) ?_); refine hK _ ?_; clear hK K)
  (refine walks_one fun K hK => ?_); refine st_pure rfl rfl (fun _ => run_build6 rfl rfl rfl rfl rfl rfl) ?_; refine hK _ ?_; clear hK K
  (refine walks_one fun K hK => ?_); refine st_alloc23 rfl rfl ?_; refine hK _ ?_; clear hK K
  refine walks_end fun a9 ha9 => hKQ _ fun w3 hC => ?_
  have e7 : a9.eval (.tmp 8) = .pointer (some ⟨w2.heap.size, 0, none⟩) := by rw [ha9.eval]; rfl
  have e52 : a9.eval (.tmp 99) = mx (rnd (a' * a + c' * b) 4096) (rnd (b' * a + d' * b) 4096) (rnd (a' * c + c' * d) 4096) (rnd (b' * c + d' * d) 4096) (IntKind.i64.wrap (rnd (a' * e + c' * f) 4096 + e')) (IntKind.i64.wrap (rnd (b' * e + d' * f) 4096 + f')) := by rw [ha9.eval]; rfl
  rw [HXY.out.1, HXY.out.2.1, HXY.out.2.2.1, HXY.out.2.2.2.1, HXY.out.2.2.2.2.1, HXY.out.2.2.2.2.2] at e52
  refine tail6s e7 e52 (Cls.new hC) ?_
  refine hKn _ _ ?_
  obtain ⟨g9, hg9, h4, h7⟩ : ∃ g9, Is a9 105 g9 ∧ g9 4 = .pointer (some ⟨w.heap.size + 1 + 1, 0, none⟩) ∧ g9 8 = .pointer (some ⟨w2.heap.size, 0, none⟩) := ⟨_, ha9, rfl, rfl⟩
  have hw := hg9.whole
  rw [show ((List.range 105).map g9).toArray = #[g9 0, g9 1, g9 2, g9 3, g9 4, g9 5, g9 6, g9 7, g9 8, g9 9, g9 10, g9 11, g9 12, g9 13, g9 14, g9 15, g9 16, g9 17, g9 18, g9 19, g9 20, g9 21, g9 22, g9 23, g9 24, g9 25, g9 26, g9 27, g9 28, g9 29, g9 30, g9 31, g9 32, g9 33, g9 34, g9 35, g9 36, g9 37, g9 38, g9 39, g9 40, g9 41, g9 42, g9 43, g9 44, g9 45, g9 46, g9 47, g9 48, g9 49, g9 50, g9 51, g9 52, g9 53, g9 54, g9 55, g9 56, g9 57, g9 58, g9 59, g9 60, g9 61, g9 62, g9 63, g9 64, g9 65, g9 66, g9 67, g9 68, g9 69, g9 70, g9 71, g9 72, g9 73, g9 74, g9 75, g9 76, g9 77, g9 78, g9 79, g9 80, g9 81, g9 82, g9 83, g9 84, g9 85, g9 86, g9 87, g9 88, g9 89, g9 90, g9 91, g9 92, g9 93, g9 94, g9 95, g9 96, g9 97, g9 98, g9 99, g9 100, g9 101, g9 102, g9 103, g9 104] from rfl] at hw
  rw [h4, h7] at hw
  have HVR := hid (HV22.out.next hC.below)
  have HVI := hid (Cls.new hC)
  have HB3 := hid (below_next HB2.out hC.below)
  have N1 := HV22.out.lt
  clear hC
  subst hw
  clear ha9 hg9 h4 h7 e7 e52 L0 L1 hKQ HS KQ HV02 HV12
  generalize hw4 : ((((((w3.setCell ⟨w2.heap.size, 0, none⟩ (.int .i64 E0)).setCell ⟨w2.heap.size, 1, none⟩ (.int .i64 E1)).setCell ⟨w2.heap.size, 2, none⟩ (.int .i64 E2)).setCell ⟨w2.heap.size, 3, none⟩ (.int .i64 E3)).setCell ⟨w2.heap.size, 4, none⟩ (.int .i64 E4)).setCell ⟨w2.heap.size, 5, none⟩ (.int .i64 E5)) = w4
  have V1 : Var w4 w2.heap.size _ _ := hw4 ▸ HVI.out.set6 (p := .int .i64 E0) (q := .int .i64 E1) (r := .int .i64 E2) (s := .int .i64 E3) (t := .int .i64 E4) (u := .int .i64 E5)
  have V2 : Var w4 (w.heap.size + 1 + 1) _ _ := hw4 ▸ far6 HVR.out (by omega)
  have B4 : Below w.heap.size w w4 := hw4 ▸ below_set6 HB3.out (by omega)
  clear hw4 HVI HVR HB3
  have HVI := hid V1
  have HVR := hid V2
  have HB4 := hid B4
  clear V1 V2 B4 N1 HV22 HB2
  obtain ⟨q0, q1, q2, q3, q4, q5, qf⟩ := HVI.out.read6
  go_wp2_with fail
  clear q0 q1 q2 q3 q4 q5 qf
  by_cases hin : Good E0 E1 E2 E3 E4 E5
  · obtain ⟨e1, rfl⟩ := HI.out.good rfl hin
    (with_reducible refine (mchk_any _ _ _ _ _ _ _).mono ?_); rintro x0 w5 ⟨rfl, hb⟩
    rw [errM_good hin]
    have HI5 := hid (HVI.out.next hb)
    have HR5 := hid (HVR.out.next hb)
    have HB5 := hid (below_next HB4.out hb)
    clear hb HVI HVR HB4
    obtain ⟨q0, q1, q2, q3, q4, q5, qf⟩ := HI5.out.read6
    obtain ⟨p0, p1, p2, p3, p4, p5, pf⟩ := HR5.out.read6
    go_wp2_with fail
    exact ret6n Try.results24 rfl rfl HR5.out.set6 ⟨by rw [e1], below_set6 HB5.out (by omega)⟩
  · obtain ⟨e1, rfl⟩ := HI.out.over rfl hin
    (with_reducible refine (mchk_any _ _ _ _ _ _ _).mono ?_); rintro x0 w5 ⟨rfl, hb⟩
    rw [errM_bad hin]
    have HI5 := hid (HVI.out.next hb)
    have HR5 := hid (HVR.out.next hb)
    have HB5 := hid (below_next HB4.out hb)
    clear hb HVI HVR HB4
    obtain ⟨q0, q1, q2, q3, q4, q5, qf⟩ := HI5.out.read6
    obtain ⟨p0, p1, p2, p3, p4, p5, pf⟩ := HR5.out.read6
    go_wp2_with fail
    exact ret6n Try.results24 rfl rfl HR5.out.set6 ⟨by rw [e1], below_set6 HB5.out (by omega)⟩

theorem rthen_any (a b c d e f a' b' c' d' e' f' v0 v1 v2 v3 v4 v5 r : Int) (w : World) (h : ThenIs a b c d e f a' b' c' d' e' f' (mx v0 v1 v2 v3 v4 v5) r) :
    Calls Try.prog 24 #[mx a b c d e f, mx a' b' c' d' e' f'] w fun x w' => x = .returned (.tuple #[mx v0 v1 v2 v3 v4 v5, .int .i64 r]) ∧ Below w.heap.size w w' := by
  by_cases hm : Good a b c d e f
  · by_cases hn : Good a' b' c' d' e' f'
    · unfold ThenIs at h
      rw [err2_yes ⟨hm, hn⟩] at h
      exact rthen_ok _ _ _ _ _ _ _ _ _ _ _ _ _ _ _ _ _ _ _ w hm hn h
    · unfold ThenIs at h
      rw [err2_no fun k => hn k.2] at h
      obtain ⟨h1, rfl⟩ := h.bad (by decide)
      rw [h1]
      exact rthen_bad2 _ _ _ _ _ _ _ _ _ _ _ _ w hm hn
  · unfold ThenIs at h
    rw [err2_no fun k => hm k.1] at h
    obtain ⟨h1, rfl⟩ := h.bad (by decide)
    rw [h1]
    exact rthen_bad1 _ _ _ _ _ _ _ _ _ _ _ _ w hm

end Go.Proofs.Ytdelhelfphblcaa
