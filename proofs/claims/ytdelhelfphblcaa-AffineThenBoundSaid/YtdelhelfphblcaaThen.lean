/- What Then of package affine returns. -/
import Derived.Test.YtdelhelfphblcaaSteps
namespace Go.Proofs.Ytdelhelfphblcaa
open Go Go.RowKit
set_option linter.unusedVariables false

set_option maxHeartbeats 1000000 in
theorem then_ok (a b c d e f a' b' c' d' e' f' : Int) (v0 v1 v2 v3 v4 v5 r : Int) (w : World) (hm : Good a b c d e f) (hn : Good a' b' c' d' e' f')
    (hi : MapIs 0 (rnd (a' * a + c' * b) 4096) (rnd (b' * a + d' * b) 4096) (rnd (a' * c + c' * d) 4096) (rnd (b' * c + d' * d) 4096) (rnd (a' * e + c' * f) 4096 + e') (rnd (b' * e + d' * f) 4096 + f') (mx v0 v1 v2 v3 v4 v5) r) :
    Calls Try.prog 11 #[mx a b c d e f, mx a' b' c' d' e' f'] w fun x w' => x = .returned (.tuple #[mx v0 v1 v2 v3 v4 v5, .int .i64 r]) ∧ Below w.heap.size w w' := by
  have HM := hid hm
  have HN := hid hn
  obtain ⟨hm1, hm2⟩ := hm
  obtain ⟨hn1, hn2⟩ := hn
  obtain ⟨ba, bb, bc, bd⟩ := wi4.1 hm1
  obtain ⟨be, bf⟩ := wi2.1 hm2
  obtain ⟨na, nb, nc, nd⟩ := wi4.1 hn1
  obtain ⟨ne, nf⟩ := wi2.1 hn2
  have S1 : Sm (a' * a) := by have := mulb na ba; unfold Sm; omega
  have S2 : Sm (c' * b) := by have := mulb nc bb; unfold Sm; omega
  have S3 : Sm (b' * a) := by have := mulb nb ba; unfold Sm; omega
  have S4 : Sm (d' * b) := by have := mulb nd bb; unfold Sm; omega
  have S5 : Sm (a' * c) := by have := mulb na bc; unfold Sm; omega
  have S6 : Sm (c' * d) := by have := mulb nc bd; unfold Sm; omega
  have S7 : Sm (b' * c) := by have := mulb nb bc; unfold Sm; omega
  have S8 : Sm (d' * d) := by have := mulb nd bd; unfold Sm; omega
  have S9 : Sm (a' * e) := by have := mulb na be; unfold Sm; omega
  have S10 : Sm (c' * f) := by have := mulb nc bf; unfold Sm; omega
  have S11 : Sm (b' * e) := by have := mulb nb be; unfold Sm; omega
  have S12 : Sm (d' * f) := by have := mulb nd bf; unfold Sm; omega
  have T1 : IntKind.i64.wrap (rnd (a' * e + c' * f) 4096 + e') = rnd (a' * e + c' * f) 4096 + e' := rnd_add (by unfold Sm at S9 S10; omega) (by unfold Sm; omega)
  have T2 : IntKind.i64.wrap (rnd (b' * e + d' * f) 4096 + f') = rnd (b' * e + d' * f) 4096 + f' := rnd_add (by unfold Sm at S11 S12; omega) (by unfold Sm; omega)
  have HS := hid (And.intro S1 (And.intro S2 (And.intro S3 (And.intro S4 (And.intro S5 (And.intro S6 (And.intro S7 (And.intro S8 (And.intro S9 (And.intro S10 (And.intro S11 (And.intro S12 (And.intro T1 T2)))))))))))))
  have HI := hid hi
  clear hm1 hm2 hn1 hn2 ba bb bc bd be bf na nb nc nd ne nf S1 S2 S3 S4 S5 S6 S7 S8 S9 S10 S11 S12 T1 T2 hi
  obtain ⟨A, hA⟩ : ∃ A, A = w.alloc (.cells #[.int .i64 a, .int .i64 b, .int .i64 c, .int .i64 d, .int .i64 e, .int .i64 f] 23) := ⟨_, rfl⟩
  obtain ⟨B, hB⟩ : ∃ B, B = A.alloc (.cells #[.int .i64 a', .int .i64 b', .int .i64 c', .int .i64 d', .int .i64 e', .int .i64 f'] 23) := ⟨_, rfl⟩
  obtain ⟨D, hD⟩ : ∃ D, D = B.alloc (.cells #[.int .i64 0, .int .i64 0, .int .i64 0, .int .i64 0, .int .i64 0, .int .i64 0] 23) := ⟨_, rfl⟩
  have HV0 := hid (show Var D w.heap.size _ _ by rw [hD, hB, hA]; exact ((Var.new _ _ _ _ rfl).alloc _).alloc _)
  have HV1 := hid (show Var D (w.heap.size + 1) _ _ by rw [hD, hB]; exact (Var.new A _ _ _ (by rw [hA]; simp)).alloc _)
  have HV2 := hid (show Var D (w.heap.size + 2) _ _ by rw [hD]; exact Var.new B _ _ _ (by rw [hB, hA]; simp))
  have HB0 := hid (show Below w.heap.size w D by rw [hD, hB, hA]; exact below_alloc (below_alloc (below_alloc (Below.refl _ w) _) _) _)
  go_enter Try.func11, Try.ntmps11
  go_upto_region 1 with fail
  rw [← hA, ← hB, ← hD]
  clear hD hB hA
  obtain ⟨p0, p1, p2, p3, p4, p5, pf⟩ := HV0.out.read6
  go_wp2_with fail
  clear p0 p1 p2 p3 p4 p5 pf
  (with_reducible refine (chk_good _ _ _ _ _ _ _ HM.out).mono ?_); rintro x w1 ⟨rfl, hb⟩
  have HV01 := hid (HV0.out.next hb)
  have HV11 := hid (HV1.out.next hb)
  have HV21 := hid (HV2.out.next hb)
  have HB1 := hid (below_next HB0.out hb)
  clear hb HV0 HV1 HV2 HB0
  obtain ⟨p0, p1, p2, p3, p4, p5, pf⟩ := HV11.out.read6
  go_wp2_with fail
  clear p0 p1 p2 p3 p4 p5 pf
  (with_reducible refine (chk_good _ _ _ _ _ _ _ HN.out).mono ?_); rintro x w2 ⟨rfl, hb⟩
  have HV02 := hid (HV01.out.next hb)
  have HV12 := hid (HV11.out.next hb)
  have HV22 := hid (HV21.out.next hb)
  have HB2 := hid (below_next HB1.out hb)
  clear hb HV01 HV11 HV21 HB1
  go_wp2_with fail
  rename_i Kn hKn
  refine wp_region_fan 82 1000 (Over w2) (by kernel_rfl) (by kernel_rfl) (Over.start w2) ?_
  simp only [List.append, List.take_succ_cons, List.take_zero, List.drop_succ_cons, List.drop_zero]
  have L0 := fun b w1 (h : Over w2 b w1) => h.var HV02.out
  have L1 := fun b w1 (h : Over w2 b w1) => h.var HV12.out
  refine WalksE.sound _ _ _ _ ?_ ((((Is.start _ (n := 102) rfl).pin 2 (v := .pointer (some ⟨w.heap.size, 0, none⟩)) rfl).pin 3 (v := .pointer (some ⟨w.heap.size + 1, 0, none⟩)) rfl).pin 4 (v := .pointer (some ⟨w.heap.size + 1 + 1, 0, none⟩)) rfl)
  generalize (fun i => Array.getD _ i undef) = g
  refine walks_with fun KQ hKQ => ?_
  obtain ⟨S1, S2, S3, S4, S5, S6, S7, S8, S9, S10, S11, S12, T1, T2⟩ := HS.out
  iterate 11 ((refine walks_one fun K hK => ?_); (first | refine st_load L0 rfl rfl rfl rfl ?_ | refine st_load L1 rfl rfl rfl rfl ?_ | refine st_pure rfl rfl (fun _ => rfl) ?_); refine hK _ ?_; clear hK K)
  (refine walks_one fun K hK => ?_); refine st_call rfl rfl (fun _ => run_call27 rfl) (fun _ _ h => round_over h rfl S1 S2 rfl) ?_; refine hK _ ?_; clear hK K
  iterate 11 ((refine walks_one fun K hK => ?_); (first | refine st_load L0 rfl rfl rfl rfl ?_ | refine st_load L1 rfl rfl rfl rfl ?_ | refine st_pure rfl rfl (fun _ => rfl) ?_); refine hK _ ?_; clear hK K)
  (refine walks_one fun K hK => ?_); refine st_call rfl rfl (fun _ => run_call27 rfl) (fun _ _ h => round_over h rfl S3 S4 rfl) ?_; refine hK _ ?_; clear hK K
  iterate 11 ((refine walks_one fun K hK => ?_); (first | refine st_load L0 rfl rfl rfl rfl ?_ | refine st_load L1 rfl rfl rfl rfl ?_ | refine st_pure rfl rfl (fun _ => rfl) ?_); refine hK _ ?_; clear hK K)
  (refine walks_one fun K hK => ?_); refine st_call rfl rfl (fun _ => run_call27 rfl) (fun _ _ h => round_over h rfl S5 S6 rfl) ?_; refine hK _ ?_; clear hK K
  iterate 11 ((refine walks_one fun K hK => ?_); (first | refine st_load L0 rfl rfl rfl rfl ?_ | refine st_load L1 rfl rfl rfl rfl ?_ | refine st_pure rfl rfl (fun _ => rfl) ?_); refine hK _ ?_; clear hK K)
  (refine walks_one fun K hK => ?_); refine st_call rfl rfl (fun _ => run_call27 rfl) (fun _ _ h => round_over h rfl S7 S8 rfl) ?_; refine hK _ ?_; clear hK K
  iterate 11 ((refine walks_one fun K hK => ?_); (first | refine st_load L0 rfl rfl rfl rfl ?_ | refine st_load L1 rfl rfl rfl rfl ?_ | refine st_pure rfl rfl (fun _ => rfl) ?_); refine hK _ ?_; clear hK K)
  (refine walks_one fun K hK => ?_); refine st_call rfl rfl (fun _ => run_call27 rfl) (fun _ _ h => round_over h rfl S9 S10 rfl) ?_; refine hK _ ?_; clear hK K
  iterate 3 ((refine walks_one fun K hK => ?_); (first | refine st_load L0 rfl rfl rfl rfl ?_ | refine st_load L1 rfl rfl rfl rfl ?_ | refine st_pure rfl rfl (fun _ => rfl) ?_); refine hK _ ?_; clear hK K)
  iterate 11 ((refine walks_one fun K hK => ?_); (first | refine st_load L0 rfl rfl rfl rfl ?_ | refine st_load L1 rfl rfl rfl rfl ?_ | refine st_pure rfl rfl (fun _ => rfl) ?_); refine hK _ ?_; clear hK K)
  (refine walks_one fun K hK => ?_); refine st_call rfl rfl (fun _ => run_call27 rfl) (fun _ _ h => round_over h rfl S11 S12 rfl) ?_; refine hK _ ?_; clear hK K
  iterate 3 ((refine walks_one fun K hK => ?_); (first | refine st_load L0 rfl rfl rfl rfl ?_ | refine st_load L1 rfl rfl rfl rfl ?_ | refine st_pure rfl rfl (fun _ => rfl) ?_); refine hK _ ?_; clear hK K)
  (refine walks_one fun K hK => ?_); refine st_pure rfl rfl (fun _ => run_build6 rfl rfl rfl rfl rfl rfl) ?_; refine hK _ ?_; clear hK K
  (refine walks_one fun K hK => ?_); refine st_call rfl rfl (fun _ => run_call26 rfl) (fun _ _ h => res_over h rfl T1 T2 HI.out) ?_; refine hK _ ?_; clear hK K
  iterate 2 ((refine walks_one fun K hK => ?_); refine st_pure rfl rfl (fun _ => rfl) ?_; refine hK _ ?_; clear hK K)
  refine walks_end fun a9 ha9 => hKQ _ fun w3 hC => ?_
  have e4 : a9.eval (.tmp 4) = .pointer (some ⟨w.heap.size + 1 + 1, 0, none⟩) := by rw [ha9.eval]; rfl
  have e100 : a9.eval (.tmp 100) = mx v0 v1 v2 v3 v4 v5 := by rw [ha9.eval]; rfl
  have e101 : a9.eval (.tmp 101) = .int .i64 r := by rw [ha9.eval]; rfl
  refine tail6 e4 e100 (HV22.out.next hC) ?_
  refine hKn _ _ (wp_ret ?_)
  refine ret6n_is (ha9.put (d := 5) (by decide) _) Try.results11 rfl ((upd_at _ _ _).trans e101) (HV22.out.next hC).set6 ?_
  exact And.intro rfl (below_set6 (below_next HB2.out hC) (by omega))
theorem then_bad1 (a b c d e f a' b' c' d' e' f' : Int) (w : World) (hm : ¬ Good a b c d e f) :
    Calls Try.prog 11 #[mx a b c d e f, mx a' b' c' d' e' f'] w fun x w' => x = .returned (.tuple #[mx 0 0 0 0 0 0, .int .i64 3]) ∧ Below w.heap.size w w' := by
  have HM := hid hm
  clear hm
  obtain ⟨A, hA⟩ : ∃ A, A = w.alloc (.cells #[.int .i64 a, .int .i64 b, .int .i64 c, .int .i64 d, .int .i64 e, .int .i64 f] 23) := ⟨_, rfl⟩
  obtain ⟨B, hB⟩ : ∃ B, B = A.alloc (.cells #[.int .i64 a', .int .i64 b', .int .i64 c', .int .i64 d', .int .i64 e', .int .i64 f'] 23) := ⟨_, rfl⟩
  obtain ⟨D, hD⟩ : ∃ D, D = B.alloc (.cells #[.int .i64 0, .int .i64 0, .int .i64 0, .int .i64 0, .int .i64 0, .int .i64 0] 23) := ⟨_, rfl⟩
  have HV0 := hid (show Var D w.heap.size _ _ by rw [hD, hB, hA]; exact ((Var.new _ _ _ _ rfl).alloc _).alloc _)
  have HV1 := hid (show Var D (w.heap.size + 1) _ _ by rw [hD, hB]; exact (Var.new A _ _ _ (by rw [hA]; simp)).alloc _)
  have HV2 := hid (show Var D (w.heap.size + 2) _ _ by rw [hD]; exact Var.new B _ _ _ (by rw [hB, hA]; simp))
  have HB0 := hid (show Below w.heap.size w D by rw [hD, hB, hA]; exact below_alloc (below_alloc (below_alloc (Below.refl _ w) _) _) _)
  go_enter Try.func11, Try.ntmps11
  go_upto_region 1 with fail
  rw [← hA, ← hB, ← hD]
  clear hD hB hA
  obtain ⟨p0, p1, p2, p3, p4, p5, pf⟩ := HV0.out.read6
  go_wp2_with fail
  clear p0 p1 p2 p3 p4 p5 pf
  (with_reducible refine (chk_bad _ _ _ _ _ _ _ HM.out).mono ?_); rintro x w1 ⟨rfl, hb⟩
  have HV21 := hid (HV2.out.next hb)
  have HB1 := hid (below_next HB0.out hb)
  clear hb HV0 HV1 HV2 HB0
  obtain ⟨p0, p1, p2, p3, p4, p5, pf⟩ := HV21.out.read6
  go_wp2_with fail
  exact ret6n Try.results11 rfl rfl HV21.out.set6 ⟨rfl, below_set6 HB1.out (by omega)⟩

theorem then_bad2 (a b c d e f a' b' c' d' e' f' : Int) (w : World) (hm : Good a b c d e f) (hn : ¬ Good a' b' c' d' e' f') :
    Calls Try.prog 11 #[mx a b c d e f, mx a' b' c' d' e' f'] w fun x w' => x = .returned (.tuple #[mx 0 0 0 0 0 0, .int .i64 3]) ∧ Below w.heap.size w w' := by
  have HM := hid hm
  have HN := hid hn
  clear hm hn
  obtain ⟨A, hA⟩ : ∃ A, A = w.alloc (.cells #[.int .i64 a, .int .i64 b, .int .i64 c, .int .i64 d, .int .i64 e, .int .i64 f] 23) := ⟨_, rfl⟩
  obtain ⟨B, hB⟩ : ∃ B, B = A.alloc (.cells #[.int .i64 a', .int .i64 b', .int .i64 c', .int .i64 d', .int .i64 e', .int .i64 f'] 23) := ⟨_, rfl⟩
  obtain ⟨D, hD⟩ : ∃ D, D = B.alloc (.cells #[.int .i64 0, .int .i64 0, .int .i64 0, .int .i64 0, .int .i64 0, .int .i64 0] 23) := ⟨_, rfl⟩
  have HV0 := hid (show Var D w.heap.size _ _ by rw [hD, hB, hA]; exact ((Var.new _ _ _ _ rfl).alloc _).alloc _)
  have HV1 := hid (show Var D (w.heap.size + 1) _ _ by rw [hD, hB]; exact (Var.new A _ _ _ (by rw [hA]; simp)).alloc _)
  have HV2 := hid (show Var D (w.heap.size + 2) _ _ by rw [hD]; exact Var.new B _ _ _ (by rw [hB, hA]; simp))
  have HB0 := hid (show Below w.heap.size w D by rw [hD, hB, hA]; exact below_alloc (below_alloc (below_alloc (Below.refl _ w) _) _) _)
  go_enter Try.func11, Try.ntmps11
  go_upto_region 1 with fail
  rw [← hA, ← hB, ← hD]
  clear hD hB hA
  obtain ⟨p0, p1, p2, p3, p4, p5, pf⟩ := HV0.out.read6
  go_wp2_with fail
  clear p0 p1 p2 p3 p4 p5 pf
  (with_reducible refine (chk_good _ _ _ _ _ _ _ HM.out).mono ?_); rintro x w1 ⟨rfl, hb⟩
  have HV01 := hid (HV0.out.next hb)
  have HV11 := hid (HV1.out.next hb)
  have HV21 := hid (HV2.out.next hb)
  have HB1 := hid (below_next HB0.out hb)
  clear hb HV0 HV1 HV2 HB0
  obtain ⟨p0, p1, p2, p3, p4, p5, pf⟩ := HV11.out.read6
  go_wp2_with fail
  clear p0 p1 p2 p3 p4 p5 pf
  (with_reducible refine (chk_bad _ _ _ _ _ _ _ HN.out).mono ?_); rintro x w2 ⟨rfl, hb⟩
  have HV22 := hid (HV21.out.next hb)
  have HB2 := hid (below_next HB1.out hb)
  clear hb HV01 HV11 HV21 HB1
  obtain ⟨p0, p1, p2, p3, p4, p5, pf⟩ := HV22.out.read6
  go_wp2_with fail
  exact ret6n Try.results11 rfl rfl HV22.out.set6 ⟨rfl, below_set6 HB2.out (by omega)⟩

/-- The first error of two maps. -/
def err2 (a b c d e f a' b' c' d' e' f' : Int) : Int := if Good a b c d e f ∧ Good a' b' c' d' e' f' then 0 else 3
theorem err2_yes {a b c d e f a' b' c' d' e' f' : Int} (h : Good a b c d e f ∧ Good a' b' c' d' e' f') : err2 a b c d e f a' b' c' d' e' f' = 0 := if_pos h
theorem err2_no {a b c d e f a' b' c' d' e' f' : Int} (h : ¬ (Good a b c d e f ∧ Good a' b' c' d' e' f')) : err2 a b c d e f a' b' c' d' e' f' = 3 := if_neg h

/-- What Then answers. -/
def ThenIs (a b c d e f a' b' c' d' e' f' : Int) (v : Value) (r : Int) : Prop :=
  MapIs (err2 a b c d e f a' b' c' d' e' f') (rnd (a' * a + c' * b) 4096) (rnd (b' * a + d' * b) 4096) (rnd (a' * c + c' * d) 4096) (rnd (b' * c + d' * d) 4096) (rnd (a' * e + c' * f) 4096 + e') (rnd (b' * e + d' * f) 4096 + f') v r

theorem mx_inj {a b c d e f a' b' c' d' e' f' : Int} (h : mx a b c d e f = mx a' b' c' d' e' f') : a = a' ∧ b = b' ∧ c = c' ∧ d = d' ∧ e = e' ∧ f = f' := by simpa [mx] using h

theorem then_any (a b c d e f a' b' c' d' e' f' v0 v1 v2 v3 v4 v5 r : Int) (w : World) (h : ThenIs a b c d e f a' b' c' d' e' f' (mx v0 v1 v2 v3 v4 v5) r) :
    Calls Try.prog 11 #[mx a b c d e f, mx a' b' c' d' e' f'] w fun x w' => x = .returned (.tuple #[mx v0 v1 v2 v3 v4 v5, .int .i64 r]) ∧ Below w.heap.size w w' := by
  by_cases hm : Good a b c d e f
  · by_cases hn : Good a' b' c' d' e' f'
    · unfold ThenIs at h
      rw [err2_yes ⟨hm, hn⟩] at h
      exact then_ok _ _ _ _ _ _ _ _ _ _ _ _ _ _ _ _ _ _ _ w hm hn h
    · unfold ThenIs at h
      rw [err2_no fun k => hn k.2] at h
      obtain ⟨h1, rfl⟩ := h.bad (by decide)
      rw [h1]
      exact then_bad2 _ _ _ _ _ _ _ _ _ _ _ _ w hm hn
  · unfold ThenIs at h
    rw [err2_no fun k => hm k.1] at h
    obtain ⟨h1, rfl⟩ := h.bad (by decide)
    rw [h1]
    exact then_bad1 _ _ _ _ _ _ _ _ _ _ _ _ w hm

end Go.Proofs.Ytdelhelfphblcaa
