/- What Invert of the reference returns. -/
import Derived.Test.YtdelhelfphblcaaCls
import Derived.Test.YtdelhelfphblcaaInv
namespace Go.Proofs.Ytdelhelfphblcaa
open Go Go.RowKit
set_option linter.unusedVariables false

theorem tri (s z : Int) (hs : s = 1 ∨ s = -1) (hz : -1048576 ≤ z ∧ z ≤ 1048576) : IntKind.i64.wrap (IntKind.i64.wrap (IntKind.i64.wrap (s * z) * 4096) * 4096) = s * (16777216 * z) ∧ (-2305843009213693952 ≤ s * (16777216 * z) ∧ s * (16777216 * z) ≤ 2305843009213693952) := by
  have e : -1048576 ≤ s * z ∧ s * z ≤ 1048576 := by rcases hs with rfl | rfl <;> omega
  rw [wrap_id (z := s * z) (by omega), wrap_id (z := s * z * 4096) (by omega), wrap_id (by omega)]
  rcases hs with rfl | rfl <;> omega
theorem trin (s z : Int) (hs : s = 1 ∨ s = -1) (hz : -1048576 ≤ z ∧ z ≤ 1048576) : IntKind.i64.wrap (IntKind.i64.wrap (IntKind.i64.wrap (IntKind.i64.wrap (-s) * z) * 4096) * 4096) = s * (-16777216 * z) ∧ (-2305843009213693952 ≤ s * (-16777216 * z) ∧ s * (-16777216 * z) ≤ 2305843009213693952) := by
  rw [wrap_id (z := -s) (by omega)]
  have e : -1048576 ≤ -s * z ∧ -s * z ≤ 1048576 := by rcases hs with rfl | rfl <;> omega
  rw [wrap_id (z := -s * z) (by omega), wrap_id (z := -s * z * 4096) (by omega), wrap_id (by omega)]
  rcases hs with rfl | rfl <;> omega
theorem trid {p q : Int} (s : Int) (hs : s = 1 ∨ s = -1) (hp : Sm p) (hq : Sm q) : IntKind.i64.wrap (IntKind.i64.wrap (s * IntKind.i64.wrap (IntKind.i64.wrap p - IntKind.i64.wrap q)) * 4096) = s * (4096 * (p - q)) ∧
    (-2305843009213693952 ≤ s * (4096 * (p - q)) ∧ s * (4096 * (p - q)) ≤ 2305843009213693952) := by
  unfold Sm at hp hq
  rw [wrap_id (z := p) (by omega), wrap_id (z := q) (by omega), wrap_id (z := p - q) (by omega)]
  have e : -562949953421312 ≤ s * (p - q) ∧ s * (p - q) ≤ 562949953421312 := by rcases hs with rfl | rfl <;> omega
  rw [wrap_id (z := s * (p - q)) (by omega), wrap_id (by omega)]
  rcases hs with rfl | rfl <;> omega
theorem qt_pos {N D : Int} (h : 0 < D) : rnd ((1) * (N)) D = qt N D := by
  unfold qt
  rw [if_neg (by omega), Int.one_mul]
theorem qt_neg {N D : Int} (h : D < 0) : rnd ((-1) * (N)) (-D) = qt N D := by
  unfold qt
  rw [if_pos h, Int.neg_one_mul]

theorem rinv_bad (a b c d e f : Int) (w : World) (hm : ¬ Good a b c d e f) :
    Calls Try.prog 25 #[mx a b c d e f] w fun x w' => x = .returned (.tuple #[mx 0 0 0 0 0 0, .int .i64 3]) ∧ Below w.heap.size w w' := by
  have HM := hid hm
  clear hm
  obtain ⟨A, hA⟩ : ∃ A, A = w.alloc (.cells #[.int .i64 a, .int .i64 b, .int .i64 c, .int .i64 d, .int .i64 e, .int .i64 f] 23) := ⟨_, rfl⟩
  obtain ⟨Z, hZ⟩ : ∃ Z, Z = A.alloc (.cells #[.int .i64 0, .int .i64 0, .int .i64 0, .int .i64 0, .int .i64 0, .int .i64 0] 23) := ⟨_, rfl⟩
  have HV0 := hid (show Var Z w.heap.size _ _ by rw [hZ, hA]; exact (Var.new _ _ _ _ rfl).alloc _)
  have HV2 := hid (show Var Z (w.heap.size + 1) _ _ by rw [hZ]; exact Var.new A _ _ _ (by rw [hA]; simp))
  have HB0 := hid (show Below w.heap.size w Z by rw [hZ, hA]; exact below_alloc (below_alloc (Below.refl _ w) _) _)
  go_enter Try.func25, Try.ntmps25
  go_upto_region 1 with fail
  rw [← hA, ← hZ]
  clear hZ hA
  obtain ⟨p0, p1, p2, p3, p4, p5, pf⟩ := HV0.out.read6
  go_wp2_with fail
  clear p0 p1 p2 p3 p4 p5 pf
  (with_reducible refine (mchk_any _ _ _ _ _ _ _).mono ?_); rintro x0 w1 ⟨rfl, hb⟩
  rw [errM_bad HM.out]
  have HV01 := hid (HV0.out.next hb)
  have HV21 := hid (HV2.out.next hb)
  have HB1 := hid (below_next HB0.out hb)
  clear hb HV0 HV2 HB0
  obtain ⟨p0, p1, p2, p3, p4, p5, pf⟩ := HV21.out.read6
  go_wp2_with fail
  exact ret6n Try.results25 rfl rfl HV21.out.set6 ⟨rfl, below_set6 HB1.out (by omega)⟩

theorem rinv_zero (a b c d e f : Int) (w : World) (hm : Good a b c d e f) (h0 : a * d - b * c = 0) :
    Calls Try.prog 25 #[mx a b c d e f] w fun x w' => x = .returned (.tuple #[mx 0 0 0 0 0 0, .int .i64 8]) ∧ Below w.heap.size w w' := by
  have HM := hid hm
  obtain ⟨hm1, hm2⟩ := hm
  obtain ⟨ba, bb, bc, bd⟩ := wi4.1 hm1
  obtain ⟨be, bf⟩ := wi2.1 hm2
  have b1 : -1099511627776 ≤ a * d ∧ a * d ≤ 1099511627776 := by have := mulb ba bd; omega
  have b2 : -1099511627776 ≤ b * c ∧ b * c ≤ 1099511627776 := by have := mulb bb bc; omega
  obtain ⟨b11, b12⟩ := b1
  obtain ⟨b21, b22⟩ := b2
  clear hm1 hm2 ba bb bc bd be bf
  obtain ⟨A, hA⟩ : ∃ A, A = w.alloc (.cells #[.int .i64 a, .int .i64 b, .int .i64 c, .int .i64 d, .int .i64 e, .int .i64 f] 23) := ⟨_, rfl⟩
  obtain ⟨Z, hZ⟩ : ∃ Z, Z = A.alloc (.cells #[.int .i64 0, .int .i64 0, .int .i64 0, .int .i64 0, .int .i64 0, .int .i64 0] 23) := ⟨_, rfl⟩
  have HV0 := hid (show Var Z w.heap.size _ _ by rw [hZ, hA]; exact (Var.new _ _ _ _ rfl).alloc _)
  have HV2 := hid (show Var Z (w.heap.size + 1) _ _ by rw [hZ]; exact Var.new A _ _ _ (by rw [hA]; simp))
  have HB0 := hid (show Below w.heap.size w Z by rw [hZ, hA]; exact below_alloc (below_alloc (Below.refl _ w) _) _)
  go_enter Try.func25, Try.ntmps25
  go_upto_region 1 with fail
  rw [← hA, ← hZ]
  clear hZ hA
  obtain ⟨p0, p1, p2, p3, p4, p5, pf⟩ := HV0.out.read6
  go_wp2_with fail
  clear p0 p1 p2 p3 p4 p5 pf
  (with_reducible refine (mchk_any _ _ _ _ _ _ _).mono ?_); rintro x0 w1 ⟨rfl, hb⟩
  rw [errM_good HM.out]
  have HV01 := hid (HV0.out.next hb)
  have HV21 := hid (HV2.out.next hb)
  have HB1 := hid (below_next HB0.out hb)
  clear hb HV0 HV2 HB0
  obtain ⟨p0, p1, p2, p3, p4, p5, pf⟩ := HV01.out.read6
  obtain ⟨q0, q1, q2, q3, q4, q5, qf⟩ := HV21.out.read6
  go_wp2_with fail
  exact ret6n Try.results25 rfl rfl HV21.out.set6 ⟨rfl, below_set6 HB1.out (by omega)⟩

set_option maxHeartbeats 1000000 in
theorem rinv_pos (a b c d e f D v0 v1 v2 v3 v4 v5 r : Int) (w : World) (hm : Good a b c d e f) (hD : a * d - b * c = D) (h0 : 0 < D) (hi : MapIs 0 (qt (16777216 * d) D) (qt (-16777216 * b) D) (qt (-16777216 * c) D) (qt (16777216 * a) D) (qt (4096 * (c * f - d * e)) D) (qt (4096 * (b * e - a * f)) D) (mx v0 v1 v2 v3 v4 v5) r) :
    Calls Try.prog 25 #[mx a b c d e f] w fun x w' => x = .returned (.tuple #[mx v0 v1 v2 v3 v4 v5, .int .i64 r]) ∧ Below w.heap.size w w' := by
  have HM := hid hm
  obtain ⟨hm1, hm2⟩ := hm
  obtain ⟨ba, bb, bc, bd⟩ := wi4.1 hm1
  obtain ⟨be, bf⟩ := wi2.1 hm2
  have b1 : -1099511627776 ≤ a * d ∧ a * d ≤ 1099511627776 := by have := mulb ba bd; omega
  have b2 : -1099511627776 ≤ b * c ∧ b * c ≤ 1099511627776 := by have := mulb bb bc; omega
  have T1 := tri (1) d (by omega) bd
  have T2 := trin (1) b (by omega) bb
  have T3 := trin (1) c (by omega) bc
  have T4 := tri (1) a (by omega) ba
  have S1 : Sm (c * f) := by have := mulb bc bf; unfold Sm; omega
  have S2 : Sm (d * e) := by have := mulb bd be; unfold Sm; omega
  have S3 : Sm (b * e) := by have := mulb bb be; unfold Sm; omega
  have S4 : Sm (a * f) := by have := mulb ba bf; unfold Sm; omega
  have T5 := trid (1) (by omega) S1 S2
  have T6 := trid (1) (by omega) S3 S4
  have D1 : 1 ≤ D ∧ D ≤ 4398046511104 := by omega
  have HS := hid (And.intro T1 (And.intro T2 (And.intro T3 (And.intro T4 (And.intro T5 T6)))))
  have HD1 := hid D1
  have hq := fun N => qt_pos (N := N) h0
  obtain ⟨E0, hE0⟩ : ∃ E, qt (16777216 * d) D = E := ⟨_, rfl⟩
  obtain ⟨E1, hE1⟩ : ∃ E, qt (-16777216 * b) D = E := ⟨_, rfl⟩
  obtain ⟨E2, hE2⟩ : ∃ E, qt (-16777216 * c) D = E := ⟨_, rfl⟩
  obtain ⟨E3, hE3⟩ : ∃ E, qt (16777216 * a) D = E := ⟨_, rfl⟩
  obtain ⟨E4, hE4⟩ : ∃ E, qt (4096 * (c * f - d * e)) D = E := ⟨_, rfl⟩
  obtain ⟨E5, hE5⟩ : ∃ E, qt (4096 * (b * e - a * f)) D = E := ⟨_, rfl⟩
  have HXY := hid (And.intro ((hq _).trans hE0) (And.intro ((hq _).trans hE1) (And.intro ((hq _).trans hE2) (And.intro ((hq _).trans hE3) (And.intro ((hq _).trans hE4) ((hq _).trans hE5))))))
  rw [hE0, hE1, hE2, hE3, hE4, hE5] at hi
  have HI := hid hi
  have hz : (D == 0) = false := beq_false_of_ne (by omega)
  obtain ⟨b11, b12⟩ := b1
  obtain ⟨b21, b22⟩ := b2
  clear hm1 hm2 ba bb bc bd be bf T1 T2 T3 T4 T5 T6 S1 S2 S3 S4 D1 hi hq hE0 hE1 hE2 hE3 hE4 hE5
  obtain ⟨A, hA⟩ : ∃ A, A = w.alloc (.cells #[.int .i64 a, .int .i64 b, .int .i64 c, .int .i64 d, .int .i64 e, .int .i64 f] 23) := ⟨_, rfl⟩
  obtain ⟨Z, hZ⟩ : ∃ Z, Z = A.alloc (.cells #[.int .i64 0, .int .i64 0, .int .i64 0, .int .i64 0, .int .i64 0, .int .i64 0] 23) := ⟨_, rfl⟩
  have HV0 := hid (show Var Z w.heap.size _ _ by rw [hZ, hA]; exact (Var.new _ _ _ _ rfl).alloc _)
  have HV2 := hid (show Var Z (w.heap.size + 1) _ _ by rw [hZ]; exact Var.new A _ _ _ (by rw [hA]; simp))
  have HB0 := hid (show Below w.heap.size w Z by rw [hZ, hA]; exact below_alloc (below_alloc (Below.refl _ w) _) _)
  go_enter Try.func25, Try.ntmps25
  go_upto_region 1 with fail
  rw [← hA, ← hZ]
  clear hZ hA
  obtain ⟨p0, p1, p2, p3, p4, p5, pf⟩ := HV0.out.read6
  go_wp2_with fail
  clear p0 p1 p2 p3 p4 p5 pf
  (with_reducible refine (mchk_any _ _ _ _ _ _ _).mono ?_); rintro x0 w1 ⟨rfl, hb⟩
  rw [errM_good HM.out]
  have HV01 := hid (HV0.out.next hb)
  have HV21 := hid (HV2.out.next hb)
  have HB1 := hid (below_next HB0.out hb)
  clear hb HV0 HV2 HB0
  obtain ⟨p0, p1, p2, p3, p4, p5, pf⟩ := HV01.out.read6
  go_wp2_with fail
  clear p0 p1 p2 p3 p4 p5 pf
  rename_i Kn hKn
  refine wp_region_fan 68 67 (Cls w1 (.cells #[.int .i64 0, .int .i64 0, .int .i64 0, .int .i64 0, .int .i64 0, .int .i64 0] 23)) (by kernel_rfl) (by kernel_rfl) (Cls.start w1 _) ?_
  simp only [List.append, List.take_succ_cons, List.take_zero, List.drop_succ_cons, List.drop_zero]
  have L0 := fun b w2 (h : Cls w1 (.cells #[.int .i64 0, .int .i64 0, .int .i64 0, .int .i64 0, .int .i64 0, .int .i64 0] 23) b w2) => h.var HV01.out
  refine WalksE.sound _ _ _ _ ?_ (((((Is.start _ (n := 104) rfl).pin 1 (v := .pointer (some ⟨w.heap.size, 0, none⟩)) rfl).pin 2 (v := .pointer (some ⟨w.heap.size + 1, 0, none⟩)) rfl).pin 5 (v := .int .i64 D) rfl).pin 6 (v := .int .i64 (1)) rfl)
  generalize (fun i => Array.getD _ i undef) = g
  refine walks_with fun KQ hKQ => ?_
  obtain ⟨T1, T2, T3, T4, T5, T6⟩ := HS.out
  iterate 7 ((refine walks_one fun K hK => ?_); (first | refine st_load L0 rfl rfl rfl rfl ?_ | refine st_pure rfl rfl (fun _ => rfl) ?_); refine hK _ ?_; clear hK K)
  (refine walks_one fun K hK => ?_); refine st_call rfl rfl (fun _ => run_call32 rfl) (fun _ _ h => half_cls h rfl rfl T1.1 T1.2 HD1.out) ?_; refine hK _ ?_; clear hK K
  iterate 8 ((refine walks_one fun K hK => ?_); (first | refine st_load L0 rfl rfl rfl rfl ?_ | refine st_pure rfl rfl (fun _ => rfl) ?_); refine hK _ ?_; clear hK K)
  (refine walks_one fun K hK => ?_); refine st_call rfl rfl (fun _ => run_call32 rfl) (fun _ _ h => half_cls h rfl rfl T2.1 T2.2 HD1.out) ?_; refine hK _ ?_; clear hK K
  iterate 8 ((refine walks_one fun K hK => ?_); (first | refine st_load L0 rfl rfl rfl rfl ?_ | refine st_pure rfl rfl (fun _ => rfl) ?_); refine hK _ ?_; clear hK K)
  (refine walks_one fun K hK => ?_); refine st_call rfl rfl (fun _ => run_call32 rfl) (fun _ _ h => half_cls h rfl rfl T3.1 T3.2 HD1.out) ?_; refine hK _ ?_; clear hK K
  iterate 7 ((refine walks_one fun K hK => ?_); (first | refine st_load L0 rfl rfl rfl rfl ?_ | refine st_pure rfl rfl (fun _ => rfl) ?_); refine hK _ ?_; clear hK K)
  (refine walks_one fun K hK => ?_); refine st_call rfl rfl (fun _ => run_call32 rfl) (fun _ _ h => half_cls h rfl rfl T4.1 T4.2 HD1.out) ?_; refine hK _ ?_; clear hK K
  iterate 15 ((refine walks_one fun K hK => ?_); (first | refine st_load L0 rfl rfl rfl rfl ?_ | refine st_pure rfl rfl (fun _ => rfl) ?_); refine hK _ ?_; clear hK K)
  (refine walks_one fun K hK => ?_); refine st_call rfl rfl (fun _ => run_call32 rfl) (fun _ _ h => half_cls h rfl rfl T5.1 T5.2 HD1.out) ?_; refine hK _ ?_; clear hK K
  iterate 15 ((refine walks_one fun K hK => ?_); (first | refine st_load L0 rfl rfl rfl rfl ?_ | refine st_pure rfl rfl (fun _ => rfl) ?_); refine hK _ ?_; clear hK K)
  (refine walks_one fun K hK => ?_); refine st_call rfl rfl (fun _ => run_call32 rfl) (fun _ _ h => half_cls h rfl rfl T6.1 T6.2 HD1.out) ?_; refine hK _ ?_; clear hK K
  (refine walks_one fun K hK => ?_); refine st_pure rfl rfl (fun _ => run_build6 rfl rfl rfl rfl rfl rfl) ?_; refine hK _ ?_; clear hK K
  (refine walks_one fun K hK => ?_); refine st_alloc23 rfl rfl ?_; refine hK _ ?_; clear hK K
  refine walks_end fun a9 ha9 => hKQ _ fun w3 hC => ?_
  have e7 : a9.eval (.tmp 7) = .pointer (some ⟨w1.heap.size, 0, none⟩) := by rw [ha9.eval]; rfl
  have e52 : a9.eval (.tmp 98) = mx (rnd ((1) * (16777216 * d)) D) (rnd ((1) * (-16777216 * b)) D) (rnd ((1) * (-16777216 * c)) D) (rnd ((1) * (16777216 * a)) D) (rnd ((1) * (4096 * (c * f - d * e))) D) (rnd ((1) * (4096 * (b * e - a * f))) D) := by rw [ha9.eval]; rfl
  rw [HXY.out.1, HXY.out.2.1, HXY.out.2.2.1, HXY.out.2.2.2.1, HXY.out.2.2.2.2.1, HXY.out.2.2.2.2.2] at e52
  refine tail6s e7 e52 (Cls.new hC) ?_
  refine hKn _ _ ?_
  obtain ⟨g9, hg9, h4, h7⟩ : ∃ g9, Is a9 104 g9 ∧ g9 2 = .pointer (some ⟨w.heap.size + 1, 0, none⟩) ∧ g9 7 = .pointer (some ⟨w1.heap.size, 0, none⟩) := ⟨_, ha9, rfl, rfl⟩
  have hw := hg9.whole
  rw [show ((List.range 104).map g9).toArray = #[g9 0, g9 1, g9 2, g9 3, g9 4, g9 5, g9 6, g9 7, g9 8, g9 9, g9 10, g9 11, g9 12, g9 13, g9 14, g9 15, g9 16, g9 17, g9 18, g9 19, g9 20, g9 21, g9 22, g9 23, g9 24, g9 25, g9 26, g9 27, g9 28, g9 29, g9 30, g9 31, g9 32, g9 33, g9 34, g9 35, g9 36, g9 37, g9 38, g9 39, g9 40, g9 41, g9 42, g9 43, g9 44, g9 45, g9 46, g9 47, g9 48, g9 49, g9 50, g9 51, g9 52, g9 53, g9 54, g9 55, g9 56, g9 57, g9 58, g9 59, g9 60, g9 61, g9 62, g9 63, g9 64, g9 65, g9 66, g9 67, g9 68, g9 69, g9 70, g9 71, g9 72, g9 73, g9 74, g9 75, g9 76, g9 77, g9 78, g9 79, g9 80, g9 81, g9 82, g9 83, g9 84, g9 85, g9 86, g9 87, g9 88, g9 89, g9 90, g9 91, g9 92, g9 93, g9 94, g9 95, g9 96, g9 97, g9 98, g9 99, g9 100, g9 101, g9 102, g9 103] from rfl] at hw
  rw [h4, h7] at hw
  have HVR := hid (HV21.out.next hC.below)
  have HVI := hid (Cls.new hC)
  have HB3 := hid (below_next HB1.out hC.below)
  have N1 := HV21.out.lt
  clear hC
  subst hw
  clear ha9 hg9 h4 h7 e7 e52 L0 hKQ HS KQ HV01
  generalize hw4 : ((((((w3.setCell ⟨w1.heap.size, 0, none⟩ (.int .i64 E0)).setCell ⟨w1.heap.size, 1, none⟩ (.int .i64 E1)).setCell ⟨w1.heap.size, 2, none⟩ (.int .i64 E2)).setCell ⟨w1.heap.size, 3, none⟩ (.int .i64 E3)).setCell ⟨w1.heap.size, 4, none⟩ (.int .i64 E4)).setCell ⟨w1.heap.size, 5, none⟩ (.int .i64 E5)) = w4
  have V1 : Var w4 w1.heap.size _ _ := hw4 ▸ HVI.out.set6 (p := .int .i64 E0) (q := .int .i64 E1) (r := .int .i64 E2) (s := .int .i64 E3) (t := .int .i64 E4) (u := .int .i64 E5)
  have V2 : Var w4 (w.heap.size + 1) _ _ := hw4 ▸ far6 HVR.out (by omega)
  have B4 : Below w.heap.size w w4 := hw4 ▸ below_set6 HB3.out (by omega)
  clear hw4 HVI HVR HB3
  have HVI := hid V1
  have HVR := hid V2
  have HB4 := hid B4
  clear V1 V2 B4 N1 HV21 HB1
  obtain ⟨q0, q1, q2, q3, q4, q5, qf⟩ := HVI.out.read6
  go_wp2_with fail
  clear q0 q1 q2 q3 q4 q5 qf
  by_cases hin : Good E0 E1 E2 E3 E4 E5
  · obtain ⟨e1, rfl⟩ := HI.out.good rfl hin
    (with_reducible refine (mchk_any _ _ _ _ _ _ _).mono ?_); rintro x0 w5 ⟨rfl, hb⟩
    rw [errM_good hin]
    have HI5 := hid (HVI.out.next hb)
    have HR5 := hid (HVR.out.next hb)
    have HB5 := hid (below_next HB4.out hb)
    clear hb HVI HVR HB4
    obtain ⟨q0, q1, q2, q3, q4, q5, qf⟩ := HI5.out.read6
    obtain ⟨p0, p1, p2, p3, p4, p5, pf⟩ := HR5.out.read6
    go_wp2_with fail
    exact ret6n Try.results25 rfl rfl HR5.out.set6 ⟨by rw [e1], below_set6 HB5.out (by omega)⟩
  · obtain ⟨e1, rfl⟩ := HI.out.over rfl hin
    (with_reducible refine (mchk_any _ _ _ _ _ _ _).mono ?_); rintro x0 w5 ⟨rfl, hb⟩
    rw [errM_bad hin]
    have HI5 := hid (HVI.out.next hb)
    have HR5 := hid (HVR.out.next hb)
    have HB5 := hid (below_next HB4.out hb)
    clear hb HVI HVR HB4
    obtain ⟨q0, q1, q2, q3, q4, q5, qf⟩ := HI5.out.read6
    obtain ⟨p0, p1, p2, p3, p4, p5, pf⟩ := HR5.out.read6
    go_wp2_with fail
    exact ret6n Try.results25 rfl rfl HR5.out.set6 ⟨by rw [e1], below_set6 HB5.out (by omega)⟩

set_option maxHeartbeats 1000000 in
theorem rinv_neg (a b c d e f D v0 v1 v2 v3 v4 v5 r : Int) (w : World) (hm : Good a b c d e f) (hD : a * d - b * c = D) (h0 : D < 0) (hi : MapIs 0 (qt (16777216 * d) D) (qt (-16777216 * b) D) (qt (-16777216 * c) D) (qt (16777216 * a) D) (qt (4096 * (c * f - d * e)) D) (qt (4096 * (b * e - a * f)) D) (mx v0 v1 v2 v3 v4 v5) r) :
    Calls Try.prog 25 #[mx a b c d e f] w fun x w' => x = .returned (.tuple #[mx v0 v1 v2 v3 v4 v5, .int .i64 r]) ∧ Below w.heap.size w w' := by
  have HM := hid hm
  obtain ⟨hm1, hm2⟩ := hm
  obtain ⟨ba, bb, bc, bd⟩ := wi4.1 hm1
  obtain ⟨be, bf⟩ := wi2.1 hm2
  have b1 : -1099511627776 ≤ a * d ∧ a * d ≤ 1099511627776 := by have := mulb ba bd; omega
  have b2 : -1099511627776 ≤ b * c ∧ b * c ≤ 1099511627776 := by have := mulb bb bc; omega
  have T1 := tri (-1) d (by omega) bd
  have T2 := trin (-1) b (by omega) bb
  have T3 := trin (-1) c (by omega) bc
  have T4 := tri (-1) a (by omega) ba
  have S1 : Sm (c * f) := by have := mulb bc bf; unfold Sm; omega
  have S2 : Sm (d * e) := by have := mulb bd be; unfold Sm; omega
  have S3 : Sm (b * e) := by have := mulb bb be; unfold Sm; omega
  have S4 : Sm (a * f) := by have := mulb ba bf; unfold Sm; omega
  have T5 := trid (-1) (by omega) S1 S2
  have T6 := trid (-1) (by omega) S3 S4
  have D1 : 1 ≤ (-D) ∧ (-D) ≤ 4398046511104 := by omega
  have HS := hid (And.intro T1 (And.intro T2 (And.intro T3 (And.intro T4 (And.intro T5 T6)))))
  have HD1 := hid D1
  have hq := fun N => qt_neg (N := N) h0
  obtain ⟨E0, hE0⟩ : ∃ E, qt (16777216 * d) D = E := ⟨_, rfl⟩
  obtain ⟨E1, hE1⟩ : ∃ E, qt (-16777216 * b) D = E := ⟨_, rfl⟩
  obtain ⟨E2, hE2⟩ : ∃ E, qt (-16777216 * c) D = E := ⟨_, rfl⟩
  obtain ⟨E3, hE3⟩ : ∃ E, qt (16777216 * a) D = E := ⟨_, rfl⟩
  obtain ⟨E4, hE4⟩ : ∃ E, qt (4096 * (c * f - d * e)) D = E := ⟨_, rfl⟩
  obtain ⟨E5, hE5⟩ : ∃ E, qt (4096 * (b * e - a * f)) D = E := ⟨_, rfl⟩
  have HXY := hid (And.intro ((hq _).trans hE0) (And.intro ((hq _).trans hE1) (And.intro ((hq _).trans hE2) (And.intro ((hq _).trans hE3) (And.intro ((hq _).trans hE4) ((hq _).trans hE5))))))
  rw [hE0, hE1, hE2, hE3, hE4, hE5] at hi
  have HI := hid hi
  have hz : (D == 0) = false := beq_false_of_ne (by omega)
  obtain ⟨b11, b12⟩ := b1
  obtain ⟨b21, b22⟩ := b2
  clear hm1 hm2 ba bb bc bd be bf T1 T2 T3 T4 T5 T6 S1 S2 S3 S4 D1 hi hq hE0 hE1 hE2 hE3 hE4 hE5
  obtain ⟨A, hA⟩ : ∃ A, A = w.alloc (.cells #[.int .i64 a, .int .i64 b, .int .i64 c, .int .i64 d, .int .i64 e, .int .i64 f] 23) := ⟨_, rfl⟩
  obtain ⟨Z, hZ⟩ : ∃ Z, Z = A.alloc (.cells #[.int .i64 0, .int .i64 0, .int .i64 0, .int .i64 0, .int .i64 0, .int .i64 0] 23) := ⟨_, rfl⟩
  have HV0 := hid (show Var Z w.heap.size _ _ by rw [hZ, hA]; exact (Var.new _ _ _ _ rfl).alloc _)
  have HV2 := hid (show Var Z (w.heap.size + 1) _ _ by rw [hZ]; exact Var.new A _ _ _ (by rw [hA]; simp))
  have HB0 := hid (show Below w.heap.size w Z by rw [hZ, hA]; exact below_alloc (below_alloc (Below.refl _ w) _) _)
  go_enter Try.func25, Try.ntmps25
  go_upto_region 1 with fail
  rw [← hA, ← hZ]
  clear hZ hA
  obtain ⟨p0, p1, p2, p3, p4, p5, pf⟩ := HV0.out.read6
  go_wp2_with fail
  clear p0 p1 p2 p3 p4 p5 pf
  (with_reducible refine (mchk_any _ _ _ _ _ _ _).mono ?_); rintro x0 w1 ⟨rfl, hb⟩
  rw [errM_good HM.out]
  have HV01 := hid (HV0.out.next hb)
  have HV21 := hid (HV2.out.next hb)
  have HB1 := hid (below_next HB0.out hb)
  clear hb HV0 HV2 HB0
  obtain ⟨p0, p1, p2, p3, p4, p5, pf⟩ := HV01.out.read6
  go_wp2_with fail
  clear p0 p1 p2 p3 p4 p5 pf
  rename_i Kn hKn
  refine wp_region_fan 68 67 (Cls w1 (.cells #[.int .i64 0, .int .i64 0, .int .i64 0, .int .i64 0, .int .i64 0, .int .i64 0] 23)) (by kernel_rfl) (by kernel_rfl) (Cls.start w1 _) ?_
  simp only [List.append, List.take_succ_cons, List.take_zero, List.drop_succ_cons, List.drop_zero]
  have L0 := fun b w2 (h : Cls w1 (.cells #[.int .i64 0, .int .i64 0, .int .i64 0, .int .i64 0, .int .i64 0, .int .i64 0] 23) b w2) => h.var HV01.out
  refine WalksE.sound _ _ _ _ ?_ (((((Is.start _ (n := 104) rfl).pin 1 (v := .pointer (some ⟨w.heap.size, 0, none⟩)) rfl).pin 2 (v := .pointer (some ⟨w.heap.size + 1, 0, none⟩)) rfl).pin 5 (v := .int .i64 (-D)) rfl).pin 6 (v := .int .i64 (-1)) rfl)
  generalize (fun i => Array.getD _ i undef) = g
  refine walks_with fun KQ hKQ => ?_
  obtain ⟨T1, T2, T3, T4, T5, T6⟩ := HS.out
  iterate 7 ((refine walks_one fun K hK => ?_); (first | refine st_load L0 rfl rfl rfl rfl ?_ | refine st_pure rfl rfl (fun _ => rfl) ?_); refine hK _ ?_; clear hK K)
  (refine walks_one fun K hK => ?_); refine st_call rfl rfl (fun _ => run_call32 rfl) (fun _ _ h => half_cls h rfl rfl T1.1 T1.2 HD1.out) ?_; refine hK _ ?_; clear hK K
  iterate 8 ((refine walks_one fun K hK => ?_); (first | refine st_load L0 rfl rfl rfl rfl ?_ | refine st_pure rfl rfl (fun _ => rfl) ?_); refine hK _ ?_; clear hK K)
  (refine walks_one fun K hK => ?_); refine st_call rfl rfl (fun _ => run_call32 rfl) (fun _ _ h => half_cls h rfl rfl T2.1 T2.2 HD1.out) ?_; refine hK _ ?_; clear hK K
  iterate 8 ((refine walks_one fun K hK => ?_); (first | refine st_load L0 rfl rfl rfl rfl ?_ | refine st_pure rfl rfl (fun _ => rfl) ?_); refine hK _ ?_; clear hK K)
  (refine walks_one fun K hK => ?_); refine st_call rfl rfl (fun _ => run_call32 rfl) (fun _ _ h => half_cls h rfl rfl T3.1 T3.2 HD1.out) ?_; refine hK _ ?_; clear hK K
  iterate 7 ((refine walks_one fun K hK => ?_); (first | refine st_load L0 rfl rfl rfl rfl ?_ | refine st_pure rfl rfl (fun _ => rfl) ?_); refine hK _ ?_; clear hK K)
  (refine walks_one fun K hK => ?_); refine st_call rfl rfl (fun _ => run_call32 rfl) (fun _ _ h => half_cls h rfl rfl T4.1 T4.2 HD1.out) ?_; refine hK _ ?_; clear hK K
  iterate 15 ((refine walks_one fun K hK => ?_); (first | refine st_load L0 rfl rfl rfl rfl ?_ | refine st_pure rfl rfl (fun _ => rfl) ?_); refine hK _ ?_; clear hK K)
  (refine walks_one fun K hK => ?_); refine st_call rfl rfl (fun _ => run_call32 rfl) (fun _ _ h => half_cls h rfl rfl T5.1 T5.2 HD1.out) ?_; refine hK _ ?_; clear hK K
  iterate 15 ((refine walks_one fun K hK => ?_); (first | refine st_load L0 rfl rfl rfl rfl ?_ | refine st_pure rfl rfl (fun _ => rfl) ?_); refine hK _ ?_; clear hK K)
  (refine walks_one fun K hK => ?_); refine st_call rfl rfl (fun _ => run_call32 rfl) (fun _ _ h => half_cls h rfl rfl T6.1 T6.2 HD1.out) ?_; refine hK _ ?_; clear hK K
  (refine walks_one fun K hK => ?_); refine st_pure rfl rfl (fun _ => run_build6 rfl rfl rfl rfl rfl rfl) ?_; refine hK _ ?_; clear hK K
  (refine walks_one fun K hK => ?_); refine st_alloc23 rfl rfl ?_; refine hK _ ?_; clear hK K
  refine walks_end fun a9 ha9 => hKQ _ fun w3 hC => ?_
  have e7 : a9.eval (.tmp 7) = .pointer (some ⟨w1.heap.size, 0, none⟩) := by rw [ha9.eval]; rfl
  have e52 : a9.eval (.tmp 98) = mx (rnd ((-1) * (16777216 * d)) (-D)) (rnd ((-1) * (-16777216 * b)) (-D)) (rnd ((-1) * (-16777216 * c)) (-D)) (rnd ((-1) * (16777216 * a)) (-D)) (rnd ((-1) * (4096 * (c * f - d * e))) (-D)) (rnd ((-1) * (4096 * (b * e - a * f))) (-D)) := by rw [ha9.eval]; rfl
  rw [HXY.out.1, HXY.out.2.1, HXY.out.2.2.1, HXY.out.2.2.2.1, HXY.out.2.2.2.2.1, HXY.out.2.2.2.2.2] at e52
  refine tail6s e7 e52 (Cls.new hC) ?_
  refine hKn _ _ ?_
  obtain ⟨g9, hg9, h4, h7⟩ : ∃ g9, Is a9 104 g9 ∧ g9 2 = .pointer (some ⟨w.heap.size + 1, 0, none⟩) ∧ g9 7 = .pointer (some ⟨w1.heap.size, 0, none⟩) := ⟨_, ha9, rfl, rfl⟩
  have hw := hg9.whole
  rw [show ((List.range 104).map g9).toArray = #[g9 0, g9 1, g9 2, g9 3, g9 4, g9 5, g9 6, g9 7, g9 8, g9 9, g9 10, g9 11, g9 12, g9 13, g9 14, g9 15, g9 16, g9 17, g9 18, g9 19, g9 20, g9 21, g9 22, g9 23, g9 24, g9 25, g9 26, g9 27, g9 28, g9 29, g9 30, g9 31, g9 32, g9 33, g9 34, g9 35, g9 36, g9 37, g9 38, g9 39, g9 40, g9 41, g9 42, g9 43, g9 44, g9 45, g9 46, g9 47, g9 48, g9 49, g9 50, g9 51, g9 52, g9 53, g9 54, g9 55, g9 56, g9 57, g9 58, g9 59, g9 60, g9 61, g9 62, g9 63, g9 64, g9 65, g9 66, g9 67, g9 68, g9 69, g9 70, g9 71, g9 72, g9 73, g9 74, g9 75, g9 76, g9 77, g9 78, g9 79, g9 80, g9 81, g9 82, g9 83, g9 84, g9 85, g9 86, g9 87, g9 88, g9 89, g9 90, g9 91, g9 92, g9 93, g9 94, g9 95, g9 96, g9 97, g9 98, g9 99, g9 100, g9 101, g9 102, g9 103] from rfl] at hw
  rw [h4, h7] at hw
  have HVR := hid (HV21.out.next hC.below)
  have HVI := hid (Cls.new hC)
  have HB3 := hid (below_next HB1.out hC.below)
  have N1 := HV21.out.lt
  clear hC
  subst hw
  clear ha9 hg9 h4 h7 e7 e52 L0 hKQ HS KQ HV01
  generalize hw4 : ((((((w3.setCell ⟨w1.heap.size, 0, none⟩ (.int .i64 E0)).setCell ⟨w1.heap.size, 1, none⟩ (.int .i64 E1)).setCell ⟨w1.heap.size, 2, none⟩ (.int .i64 E2)).setCell ⟨w1.heap.size, 3, none⟩ (.int .i64 E3)).setCell ⟨w1.heap.size, 4, none⟩ (.int .i64 E4)).setCell ⟨w1.heap.size, 5, none⟩ (.int .i64 E5)) = w4
  have V1 : Var w4 w1.heap.size _ _ := hw4 ▸ HVI.out.set6 (p := .int .i64 E0) (q := .int .i64 E1) (r := .int .i64 E2) (s := .int .i64 E3) (t := .int .i64 E4) (u := .int .i64 E5)
  have V2 : Var w4 (w.heap.size + 1) _ _ := hw4 ▸ far6 HVR.out (by omega)
  have B4 : Below w.heap.size w w4 := hw4 ▸ below_set6 HB3.out (by omega)
  clear hw4 HVI HVR HB3
  have HVI := hid V1
  have HVR := hid V2
  have HB4 := hid B4
  clear V1 V2 B4 N1 HV21 HB1
  obtain ⟨q0, q1, q2, q3, q4, q5, qf⟩ := HVI.out.read6
  go_wp2_with fail
  clear q0 q1 q2 q3 q4 q5 qf
  by_cases hin : Good E0 E1 E2 E3 E4 E5
  · obtain ⟨e1, rfl⟩ := HI.out.good rfl hin
    (with_reducible refine (mchk_any _ _ _ _ _ _ _).mono ?_); rintro x0 w5 ⟨rfl, hb⟩
    rw [errM_good hin]
    have HI5 := hid (HVI.out.next hb)
    have HR5 := hid (HVR.out.next hb)
    have HB5 := hid (below_next HB4.out hb)
    clear hb HVI HVR HB4
    obtain ⟨q0, q1, q2, q3, q4, q5, qf⟩ := HI5.out.read6
    obtain ⟨p0, p1, p2, p3, p4, p5, pf⟩ := HR5.out.read6
    go_wp2_with fail
    exact ret6n Try.results25 rfl rfl HR5.out.set6 ⟨by rw [e1], below_set6 HB5.out (by omega)⟩
  · obtain ⟨e1, rfl⟩ := HI.out.over rfl hin
    (with_reducible refine (mchk_any _ _ _ _ _ _ _).mono ?_); rintro x0 w5 ⟨rfl, hb⟩
    rw [errM_bad hin]
    have HI5 := hid (HVI.out.next hb)
    have HR5 := hid (HVR.out.next hb)
    have HB5 := hid (below_next HB4.out hb)
    clear hb HVI HVR HB4
    obtain ⟨q0, q1, q2, q3, q4, q5, qf⟩ := HI5.out.read6
    obtain ⟨p0, p1, p2, p3, p4, p5, pf⟩ := HR5.out.read6
    go_wp2_with fail
    exact ret6n Try.results25 rfl rfl HR5.out.set6 ⟨by rw [e1], below_set6 HB5.out (by omega)⟩

theorem rinv_any (a b c d e f v0 v1 v2 v3 v4 v5 r : Int) (w : World) (h : InvIs a b c d e f (mx v0 v1 v2 v3 v4 v5) r) :
    Calls Try.prog 25 #[mx a b c d e f] w fun x w' => x = .returned (.tuple #[mx v0 v1 v2 v3 v4 v5, .int .i64 r]) ∧ Below w.heap.size w w' := by
  unfold InvIs at h
  by_cases hm : Good a b c d e f
  · rw [if_pos hm] at h
    by_cases h0 : a * d - b * c = 0
    · rw [if_pos h0] at h
      obtain ⟨h1, rfl⟩ := h.bad (by decide)
      rw [h1]
      exact rinv_zero _ _ _ _ _ _ w hm h0
    · rw [if_neg h0] at h
      by_cases hp : 0 < a * d - b * c
      · exact rinv_pos _ _ _ _ _ _ _ _ _ _ _ _ _ _ w hm rfl hp h
      · exact rinv_neg _ _ _ _ _ _ _ _ _ _ _ _ _ _ w hm rfl (by omega) h
  · rw [if_neg hm] at h
    obtain ⟨h1, rfl⟩ := h.bad (by decide)
    rw [h1]
    exact rinv_bad _ _ _ _ _ _ w hm

end Go.Proofs.Ytdelhelfphblcaa
