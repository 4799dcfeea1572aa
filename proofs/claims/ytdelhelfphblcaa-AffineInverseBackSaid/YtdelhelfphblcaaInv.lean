/- What Invert of package affine returns. -/
import Derived.Test.YtdelhelfphblcaaSteps
namespace Go.Proofs.Ytdelhelfphblcaa
open Go Go.RowKit
set_option linter.unusedVariables false

theorem inv_bad (a b c d e f : Int) (w : World) (hm : ¬ Good a b c d e f) :
    Calls Try.prog 14 #[mx a b c d e f] w fun x w' => x = .returned (.tuple #[mx 0 0 0 0 0 0, .int .i64 3]) ∧ Below w.heap.size w w' := by
  have HM := hid hm
  clear hm
  obtain ⟨A, hA⟩ : ∃ A, A = w.alloc (.cells #[.int .i64 a, .int .i64 b, .int .i64 c, .int .i64 d, .int .i64 e, .int .i64 f] 23) := ⟨_, rfl⟩
  obtain ⟨Z, hZ⟩ : ∃ Z, Z = A.alloc (.cells #[.int .i64 0, .int .i64 0, .int .i64 0, .int .i64 0, .int .i64 0, .int .i64 0] 23) := ⟨_, rfl⟩
  have HV0 := hid (show Var Z w.heap.size _ _ by rw [hZ, hA]; exact (Var.new _ _ _ _ rfl).alloc _)
  have HV2 := hid (show Var Z (w.heap.size + 1) _ _ by rw [hZ]; exact Var.new A _ _ _ (by rw [hA]; simp))
  have HB0 := hid (show Below w.heap.size w Z by rw [hZ, hA]; exact below_alloc (below_alloc (Below.refl _ w) _) _)
  go_enter Try.func14, Try.ntmps14
  go_upto_region 1 with fail
  rw [← hA, ← hZ]
  clear hZ hA
  obtain ⟨p0, p1, p2, p3, p4, p5, pf⟩ := HV0.out.read6
  go_wp2_with fail
  clear p0 p1 p2 p3 p4 p5 pf
  (with_reducible refine (chk_bad _ _ _ _ _ _ _ HM.out).mono ?_); rintro x w1 ⟨rfl, hb⟩
  have HV21 := hid (HV2.out.next hb)
  have HB1 := hid (below_next HB0.out hb)
  clear hb HV0 HV2 HB0
  obtain ⟨p0, p1, p2, p3, p4, p5, pf⟩ := HV21.out.read6
  go_wp2_with fail
  exact ret6n Try.results14 rfl rfl HV21.out.set6 ⟨rfl, below_set6 HB1.out (by omega)⟩

theorem inv_zero (a b c d e f : Int) (w : World) (hm : Good a b c d e f) (h0 : a * d - b * c = 0) :
    Calls Try.prog 14 #[mx a b c d e f] w fun x w' => x = .returned (.tuple #[mx 0 0 0 0 0 0, .int .i64 8]) ∧ Below w.heap.size w w' := by
  have HM := hid hm
  obtain ⟨hm1, hm2⟩ := hm
  obtain ⟨ba, bb, bc, bd⟩ := wi4.1 hm1
  obtain ⟨be, bf⟩ := wi2.1 hm2
  have b1 : -1099511627776 ≤ a * d ∧ a * d ≤ 1099511627776 := by have := mulb ba bd; omega
  have b2 : -1099511627776 ≤ b * c ∧ b * c ≤ 1099511627776 := by have := mulb bb bc; omega
  obtain ⟨b11, b12⟩ := b1
  obtain ⟨b21, b22⟩ := b2
  clear hm1 hm2 ba bb bc bd be bf
  obtain ⟨A, hA⟩ : ∃ A, A = w.alloc (.cells #[.int .i64 a, .int .i64 b, .int .i64 c, .int .i64 d, .int .i64 e, .int .i64 f] 23) := ⟨_, rfl⟩
  obtain ⟨Z, hZ⟩ : ∃ Z, Z = A.alloc (.cells #[.int .i64 0, .int .i64 0, .int .i64 0, .int .i64 0, .int .i64 0, .int .i64 0] 23) := ⟨_, rfl⟩
  have HV0 := hid (show Var Z w.heap.size _ _ by rw [hZ, hA]; exact (Var.new _ _ _ _ rfl).alloc _)
  have HV2 := hid (show Var Z (w.heap.size + 1) _ _ by rw [hZ]; exact Var.new A _ _ _ (by rw [hA]; simp))
  have HB0 := hid (show Below w.heap.size w Z by rw [hZ, hA]; exact below_alloc (below_alloc (Below.refl _ w) _) _)
  go_enter Try.func14, Try.ntmps14
  go_upto_region 1 with fail
  rw [← hA, ← hZ]
  clear hZ hA
  obtain ⟨p0, p1, p2, p3, p4, p5, pf⟩ := HV0.out.read6
  go_wp2_with fail
  clear p0 p1 p2 p3 p4 p5 pf
  (with_reducible refine (chk_good _ _ _ _ _ _ _ HM.out).mono ?_); rintro x w1 ⟨rfl, hb⟩
  have HV01 := hid (HV0.out.next hb)
  have HV21 := hid (HV2.out.next hb)
  have HB1 := hid (below_next HB0.out hb)
  clear hb HV0 HV2 HB0
  obtain ⟨p0, p1, p2, p3, p4, p5, pf⟩ := HV01.out.read6
  obtain ⟨q0, q1, q2, q3, q4, q5, qf⟩ := HV21.out.read6
  go_wp2_with fail
  exact ret6n Try.results14 rfl rfl HV21.out.set6 ⟨rfl, below_set6 HB1.out (by omega)⟩

set_option maxHeartbeats 1000000 in
theorem inv_ok (a b c d e f D v0 v1 v2 v3 v4 v5 r : Int) (w : World) (hm : Good a b c d e f) (hD : a * d - b * c = D) (h0 : D ≠ 0)
    (hi : MapIs 0 (qt (16777216 * d) D) (qt (-16777216 * b) D) (qt (-16777216 * c) D) (qt (16777216 * a) D) (qt (4096 * (c * f - d * e)) D) (qt (4096 * (b * e - a * f)) D) (mx v0 v1 v2 v3 v4 v5) r) :
    Calls Try.prog 14 #[mx a b c d e f] w fun x w' => x = .returned (.tuple #[mx v0 v1 v2 v3 v4 v5, .int .i64 r]) ∧ Below w.heap.size w w' := by
  have HM := hid hm
  obtain ⟨hm1, hm2⟩ := hm
  obtain ⟨ba, bb, bc, bd⟩ := wi4.1 hm1
  obtain ⟨be, bf⟩ := wi2.1 hm2
  have b1 : -1099511627776 ≤ a * d ∧ a * d ≤ 1099511627776 := by have := mulb ba bd; omega
  have b2 : -1099511627776 ≤ b * c ∧ b * c ≤ 1099511627776 := by have := mulb bb bc; omega
  have T1 : IntKind.i64.wrap (16777216 * d) = 16777216 * d := wrap_id (by omega)
  have T2 : IntKind.i64.wrap (-16777216 * b) = -16777216 * b := wrap_id (by omega)
  have T3 : IntKind.i64.wrap (-16777216 * c) = -16777216 * c := wrap_id (by omega)
  have T4 : IntKind.i64.wrap (16777216 * a) = 16777216 * a := wrap_id (by omega)
  have S1 : Sm (c * f) := by have := mulb bc bf; unfold Sm; omega
  have S2 : Sm (d * e) := by have := mulb bd be; unfold Sm; omega
  have S3 : Sm (b * e) := by have := mulb bb be; unfold Sm; omega
  have S4 : Sm (a * f) := by have := mulb ba bf; unfold Sm; omega
  have D1 : -4398046511104 ≤ D ∧ D ≤ 4398046511104 := by omega
  have HS := hid (And.intro T1 (And.intro T2 (And.intro T3 (And.intro T4 (And.intro (dif2 S1 S2) (And.intro (dif2 S3 S4) (And.intro ba (And.intro bb (And.intro bc bd)))))))))
  have HI := hid hi
  have HD1 := hid D1
  have HD0 := hid h0
  have hz : (D == 0) = false := beq_false_of_ne h0
  obtain ⟨b11, b12⟩ := b1
  obtain ⟨b21, b22⟩ := b2
  clear hm1 hm2 ba bb bc bd be bf T1 T2 T3 T4 S1 S2 S3 S4 D1 hi h0
  obtain ⟨A, hA⟩ : ∃ A, A = w.alloc (.cells #[.int .i64 a, .int .i64 b, .int .i64 c, .int .i64 d, .int .i64 e, .int .i64 f] 23) := ⟨_, rfl⟩
  obtain ⟨Z, hZ⟩ : ∃ Z, Z = A.alloc (.cells #[.int .i64 0, .int .i64 0, .int .i64 0, .int .i64 0, .int .i64 0, .int .i64 0] 23) := ⟨_, rfl⟩
  have HV0 := hid (show Var Z w.heap.size _ _ by rw [hZ, hA]; exact (Var.new _ _ _ _ rfl).alloc _)
  have HV2 := hid (show Var Z (w.heap.size + 1) _ _ by rw [hZ]; exact Var.new A _ _ _ (by rw [hA]; simp))
  have HB0 := hid (show Below w.heap.size w Z by rw [hZ, hA]; exact below_alloc (below_alloc (Below.refl _ w) _) _)
  go_enter Try.func14, Try.ntmps14
  go_upto_region 1 with fail
  rw [← hA, ← hZ]
  clear hZ hA
  obtain ⟨p0, p1, p2, p3, p4, p5, pf⟩ := HV0.out.read6
  go_wp2_with fail
  clear p0 p1 p2 p3 p4 p5 pf
  (with_reducible refine (chk_good _ _ _ _ _ _ _ HM.out).mono ?_); rintro x w1 ⟨rfl, hb⟩
  have HV01 := hid (HV0.out.next hb)
  have HV21 := hid (HV2.out.next hb)
  have HB1 := hid (below_next HB0.out hb)
  clear hb HV0 HV2 HB0
  obtain ⟨p0, p1, p2, p3, p4, p5, pf⟩ := HV01.out.read6
  go_wp2_with fail
  clear p0 p1 p2 p3 p4 p5 pf
  rename_i Kn hKn
  refine wp_region_fan 52 1000 (Over w1) (by kernel_rfl) (by kernel_rfl) (Over.start w1) ?_
  simp only [List.take_succ_cons, List.take_zero, List.drop_succ_cons, List.drop_zero]
  have L0 := fun b w2 (h : Over w1 b w2) => h.var HV01.out
  refine WalksE.sound _ _ _ _ ?_ ((((Is.start _ (n := 78) rfl).pin 1 (v := .pointer (some ⟨w.heap.size, 0, none⟩)) rfl).pin 2 (v := .pointer (some ⟨w.heap.size + 1, 0, none⟩)) rfl).pin 5 (v := .int .i64 D) rfl)
  generalize (fun i => Array.getD _ i undef) = g
  refine walks_with fun KQ hKQ => ?_
  obtain ⟨T1, T2, T3, T4, T5, T6, ba, bb, bc, bd⟩ := HS.out
  iterate 4 ((refine walks_one fun K hK => ?_); (first | refine st_load L0 rfl rfl rfl rfl ?_ | refine st_pure rfl rfl (fun _ => rfl) ?_); refine hK _ ?_; clear hK K)
  (refine walks_one fun K hK => ?_); refine st_call rfl rfl (fun _ => run_call29 rfl) (fun _ _ h => quot_over h rfl rfl T1 (by omega) HD0.out HD1.out) ?_; refine hK _ ?_; clear hK K
  iterate 4 ((refine walks_one fun K hK => ?_); (first | refine st_load L0 rfl rfl rfl rfl ?_ | refine st_pure rfl rfl (fun _ => rfl) ?_); refine hK _ ?_; clear hK K)
  (refine walks_one fun K hK => ?_); refine st_call rfl rfl (fun _ => run_call29 rfl) (fun _ _ h => quot_over h rfl rfl T2 (by omega) HD0.out HD1.out) ?_; refine hK _ ?_; clear hK K
  iterate 4 ((refine walks_one fun K hK => ?_); (first | refine st_load L0 rfl rfl rfl rfl ?_ | refine st_pure rfl rfl (fun _ => rfl) ?_); refine hK _ ?_; clear hK K)
  (refine walks_one fun K hK => ?_); refine st_call rfl rfl (fun _ => run_call29 rfl) (fun _ _ h => quot_over h rfl rfl T3 (by omega) HD0.out HD1.out) ?_; refine hK _ ?_; clear hK K
  iterate 4 ((refine walks_one fun K hK => ?_); (first | refine st_load L0 rfl rfl rfl rfl ?_ | refine st_pure rfl rfl (fun _ => rfl) ?_); refine hK _ ?_; clear hK K)
  (refine walks_one fun K hK => ?_); refine st_call rfl rfl (fun _ => run_call29 rfl) (fun _ _ h => quot_over h rfl rfl T4 (by omega) HD0.out HD1.out) ?_; refine hK _ ?_; clear hK K
  iterate 13 ((refine walks_one fun K hK => ?_); (first | refine st_load L0 rfl rfl rfl rfl ?_ | refine st_pure rfl rfl (fun _ => rfl) ?_); refine hK _ ?_; clear hK K)
  (refine walks_one fun K hK => ?_); refine st_call rfl rfl (fun _ => run_call29 rfl) (fun _ _ h => quot_over h rfl rfl T5.1 T5.2 HD0.out HD1.out) ?_; refine hK _ ?_; clear hK K
  iterate 13 ((refine walks_one fun K hK => ?_); (first | refine st_load L0 rfl rfl rfl rfl ?_ | refine st_pure rfl rfl (fun _ => rfl) ?_); refine hK _ ?_; clear hK K)
  (refine walks_one fun K hK => ?_); refine st_call rfl rfl (fun _ => run_call29 rfl) (fun _ _ h => quot_over h rfl rfl T6.1 T6.2 HD0.out HD1.out) ?_; refine hK _ ?_; clear hK K
  (refine walks_one fun K hK => ?_); refine st_pure rfl rfl (fun _ => run_build6 rfl rfl rfl rfl rfl rfl) ?_; refine hK _ ?_; clear hK K
  (refine walks_one fun K hK => ?_); refine st_call rfl rfl (fun _ => run_call26 rfl) (fun _ _ h => res_over h rfl rfl rfl HI.out) ?_; refine hK _ ?_; clear hK K
  iterate 2 ((refine walks_one fun K hK => ?_); refine st_pure rfl rfl (fun _ => rfl) ?_; refine hK _ ?_; clear hK K)
  refine walks_end fun a9 ha9 => hKQ _ fun w3 hC => ?_
  have e2 : a9.eval (.tmp 2) = .pointer (some ⟨w.heap.size + 1, 0, none⟩) := by rw [ha9.eval]; rfl
  have e76 : a9.eval (.tmp 76) = mx v0 v1 v2 v3 v4 v5 := by rw [ha9.eval]; rfl
  have e77 : a9.eval (.tmp 77) = .int .i64 r := by rw [ha9.eval]; rfl
  refine tail6 e2 e76 (HV21.out.next hC) ?_
  refine hKn _ _ (wp_ret ?_)
  refine ret6n_is (ha9.put (d := 3) (by decide) _) Try.results14 rfl ((upd_at _ _ _).trans e77) (HV21.out.next hC).set6 ?_
  exact And.intro rfl (below_set6 (below_next HB1.out hC) (by omega))

/-- What Invert answers. -/
def InvIs (a b c d e f : Int) (v : Value) (r : Int) : Prop :=
  MapIs (if Good a b c d e f then (if a * d - b * c = 0 then 8 else 0) else 3) (qt (16777216 * d) (a * d - b * c)) (qt (-16777216 * b) (a * d - b * c)) (qt (-16777216 * c) (a * d - b * c)) (qt (16777216 * a) (a * d - b * c))
    (qt (4096 * (c * f - d * e)) (a * d - b * c)) (qt (4096 * (b * e - a * f)) (a * d - b * c)) v r

theorem inv_any (a b c d e f v0 v1 v2 v3 v4 v5 r : Int) (w : World) (h : InvIs a b c d e f (mx v0 v1 v2 v3 v4 v5) r) :
    Calls Try.prog 14 #[mx a b c d e f] w fun x w' => x = .returned (.tuple #[mx v0 v1 v2 v3 v4 v5, .int .i64 r]) ∧ Below w.heap.size w w' := by
  unfold InvIs at h
  by_cases hm : Good a b c d e f
  · rw [if_pos hm] at h
    by_cases h0 : a * d - b * c = 0
    · rw [if_pos h0] at h
      obtain ⟨h1, rfl⟩ := h.bad (by decide)
      rw [h1]
      exact inv_zero _ _ _ _ _ _ w hm h0
    · rw [if_neg h0] at h
      exact inv_ok _ _ _ _ _ _ _ _ _ _ _ _ _ _ w hm rfl h0 h
  · rw [if_neg hm] at h
    obtain ⟨h1, rfl⟩ := h.bad (by decide)
    rw [h1]
    exact inv_bad _ _ _ _ _ _ w hm

end Go.Proofs.Ytdelhelfphblcaa
