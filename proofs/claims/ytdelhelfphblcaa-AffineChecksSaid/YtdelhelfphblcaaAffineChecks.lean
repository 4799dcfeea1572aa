/- The statement AffineChecks returns true for every map of six ints and all ints x and y, and changes no argument; there is no further condition. -/
import Derived.Test.YtdelhelfphblcaaRows
import Derived.WalkKit
import Derived.ProofKit
import Derived.OpenShut
import Derived.ChangeOld
import Derived.Below
import Derived.Test.YtdelhelfphblcaaOpen
import Derived.Test.YtdelhelfphblcaaTests
namespace Go.Proofs.Ytdelhelfphblcaa.affineChecks
open Go Go.ChangeShapes Go.WideShapes Go.ChangeAt Go.RowKit Go.Deep
set_option linter.unusedVariables false

set_option maxHeartbeats 1000000 in
theorem checks_a (a b c d e f x y : Int) (w : World) (hc : Wi 32767 [x, y]) (hs : Wi 1048576 [x, y]) :
    Calls Try.prog 6 #[mx a b c d e f, .int .i64 x, .int .i64 y] w fun r w' => r = .returned (.bool true) ∧ Below w.heap.size w w' := by
  have hg : Good x 0 0 y 0 0 := ⟨wi4.2 ⟨(wi2.1 hs).1, by omega, by omega, (wi2.1 hs).2⟩, wi2.2 (by omega)⟩
  obtain ⟨⟨x1, x2⟩, y1, y2⟩ := wi2.1 hc
  have HC := hid hc
  have HS := hid hs
  have HG := hid hg
  clear hc hs hg
  have HV0 := hid (Var.new w #[.int .i64 a, .int .i64 b, .int .i64 c, .int .i64 d, .int .i64 e, .int .i64 f] 23 _ rfl)
  have HB0 := hid (below_alloc (Below.refl _ w) (.cells #[.int .i64 a, .int .i64 b, .int .i64 c, .int .i64 d, .int .i64 e, .int .i64 f] 23))
  go_enter Try.func6, Try.ntmps6
  go_wp2_with fail
  (with_reducible refine (ident_any _).mono ?_); rintro x0 w1 ⟨rfl, hb⟩
  have HV1 := hid (HV0.out.next hb)
  have HB1 := hid (below_next HB0.out hb)
  clear hb HV0 HB0
  go_wp2_with fail
  (with_reducible refine (shift_ok x y _ HC.out).mono ?_); rintro x0 w2 ⟨rfl, hb⟩
  have HV2 := hid ((HV1.out.next hb).alloc (.cells #[.int .i64 4096, .int .i64 0, .int .i64 0, .int .i64 4096, .int .i64 (4096 * x), .int .i64 (4096 * y)] 23))
  have HS2 := hid (Var.new w2 #[.int .i64 4096, .int .i64 0, .int .i64 0, .int .i64 4096, .int .i64 (4096 * x), .int .i64 (4096 * y)] 23 _ rfl)
  have HB2 := hid (below_alloc (below_next HB1.out hb) (.cells #[.int .i64 4096, .int .i64 0, .int .i64 0, .int .i64 4096, .int .i64 (4096 * x), .int .i64 (4096 * y)] 23))
  have n1 := (HV1.out.next hb).lt
  clear hb HV1 HB1
  go_wp2_with fail
  (with_reducible refine (scale_ok x y _ HS.out).mono ?_); rintro x0 w3 ⟨rfl, hb⟩
  have HV3 := hid (((HV2.out.next hb).alloc (.cells #[.int .i64 x, .int .i64 0, .int .i64 0, .int .i64 y, .int .i64 0, .int .i64 0] 23)).alloc (.cells #[.int .i64 0, .int .i64 0, .int .i64 0, .int .i64 0, .int .i64 0, .int .i64 0] 23))
  have HS3 := hid (((HS2.out.next hb).alloc (.cells #[.int .i64 x, .int .i64 0, .int .i64 0, .int .i64 y, .int .i64 0, .int .i64 0] 23)).alloc (.cells #[.int .i64 0, .int .i64 0, .int .i64 0, .int .i64 0, .int .i64 0, .int .i64 0] 23))
  have HT3 := hid ((Var.new w3 #[.int .i64 x, .int .i64 0, .int .i64 0, .int .i64 y, .int .i64 0, .int .i64 0] 23 _ rfl).alloc (.cells #[.int .i64 0, .int .i64 0, .int .i64 0, .int .i64 0, .int .i64 0, .int .i64 0] 23))
  have HU3 := hid (Var.new (w3.alloc (.cells #[.int .i64 x, .int .i64 0, .int .i64 0, .int .i64 y, .int .i64 0, .int .i64 0] 23)) #[.int .i64 0, .int .i64 0, .int .i64 0, .int .i64 0, .int .i64 0, .int .i64 0] 23 (w3.heap.size + 1) (by simp))
  have HB3 := hid (below_alloc (below_alloc (below_next HB2.out hb) (.cells #[.int .i64 x, .int .i64 0, .int .i64 0, .int .i64 y, .int .i64 0, .int .i64 0] 23)) (.cells #[.int .i64 0, .int .i64 0, .int .i64 0, .int .i64 0, .int .i64 0, .int .i64 0] 23))
  have n2 := (HS2.out.next hb).lt
  clear hb HV2 HS2 HB2
  go_wp2_with fail
  (with_reducible refine (coord_any true x y _ (iff_of_true rfl HC.out)).mono ?_); rintro x0 w4 ⟨rfl, hb⟩
  have HV4 := hid (HV3.out.next hb)
  have HS4 := hid (HS3.out.next hb)
  have HT4 := hid (HT3.out.next hb)
  have HU4 := hid (HU3.out.next hb)
  have HB4 := hid (below_next HB3.out hb)
  clear hb HV3 HS3 HT3 HU3 HB3
  obtain ⟨p0, p1, p2, p3, p4, p5, pf⟩ := HU4.out.read6
  go_upto_region 8 with fail
  clear p0 p1 p2 p3 p4 p5 pf
  generalize hw : ((((((w4.setCell ⟨w3.heap.size + 1, 0, none⟩ (.int .i64 4096)).setCell ⟨w3.heap.size + 1, 1, none⟩ (.int .i64 0)).setCell ⟨w3.heap.size + 1, 2, none⟩ (.int .i64 0)).setCell ⟨w3.heap.size + 1, 3, none⟩ (.int .i64 4096)).setCell ⟨w3.heap.size + 1, 4, none⟩ (.int .i64 (4096 * x))).setCell ⟨w3.heap.size + 1, 5, none⟩ (.int .i64 (4096 * y))) = w7
  have HV7 := hid (show Var w7 _ _ _ from hw ▸ far6 HV4.out (by omega))
  have HS7 := hid (show Var w7 _ _ _ from hw ▸ far6 HS4.out (by omega))
  have HT7 := hid (show Var w7 _ _ _ from hw ▸ far6 HT4.out (by omega))
  have HU7 := hid (show Var w7 (w3.heap.size + 1) #[.int .i64 4096, .int .i64 0, .int .i64 0, .int .i64 4096, .int .i64 (4096 * x), .int .i64 (4096 * y)] 23 from hw ▸ HU4.out.set6)
  have HB7 := hid (show Below w.heap.size w w7 from hw ▸ below_set6 HB4.out (by omega))
  clear hw HV4 HS4 HT4 HU4 HB4
  go_wp2_with fail
  (with_reducible refine (mchk_any _ _ _ _ _ _ _).mono ?_); rintro x0 w5 ⟨rfl, hb⟩
  rw [errM_good HG.out]
  have HV8 := hid ((HV7.out.next hb).alloc (.cells #[.int .i64 x, .int .i64 0, .int .i64 0, .int .i64 y, .int .i64 0, .int .i64 0] 23))
  have HS8 := hid ((HS7.out.next hb).alloc (.cells #[.int .i64 x, .int .i64 0, .int .i64 0, .int .i64 y, .int .i64 0, .int .i64 0] 23))
  have HT8 := hid ((HT7.out.next hb).alloc (.cells #[.int .i64 x, .int .i64 0, .int .i64 0, .int .i64 y, .int .i64 0, .int .i64 0] 23))
  have HU8 := hid ((HU7.out.next hb).alloc (.cells #[.int .i64 x, .int .i64 0, .int .i64 0, .int .i64 y, .int .i64 0, .int .i64 0] 23))
  have HW8 := hid (Var.new w5 #[.int .i64 x, .int .i64 0, .int .i64 0, .int .i64 y, .int .i64 0, .int .i64 0] 23 _ rfl)
  have HB8 := hid (below_alloc (below_next HB7.out hb) (.cells #[.int .i64 x, .int .i64 0, .int .i64 0, .int .i64 y, .int .i64 0, .int .i64 0] 23))
  clear hb HV7 HS7 HT7 HU7 HB7
  go_upto_region 11 with fail
  generalize w5.alloc (.cells #[.int .i64 x, .int .i64 0, .int .i64 0, .int .i64 y, .int .i64 0, .int .i64 0] 23) = w6 at HV8 HS8 HT8 HU8 HW8 HB8
  rename_i Kn hKn
  refine wp_region_fan 25 1000 (Over w6) (by kernel_rfl) (by kernel_rfl) (Over.start w6) ?_
  simp only [List.take_succ_cons, List.take_zero, List.drop_succ_cons, List.drop_zero]
  have L3 := fun b w1 (h : Over w6 b w1) => h.var HV8.out
  have L7 := fun b w1 (h : Over w6 b w1) => h.var HS8.out
  have L9 := fun b w1 (h : Over w6 b w1) => h.var HT8.out
  have L12 := fun b w1 (h : Over w6 b w1) => h.var HU8.out
  have L13 := fun b w1 (h : Over w6 b w1) => h.var HW8.out
  refine WalksE.sound _ _ _ _ ?_ ((((((((((Is.start _ (n := 75) rfl).pin 3 (v := .pointer (some ⟨w.heap.size, 0, none⟩)) rfl).pin 7 (v := .pointer (some ⟨w2.heap.size, 0, none⟩)) rfl).pin 9 (v := .pointer (some ⟨w3.heap.size, 0, none⟩)) rfl).pin 12 (v := .pointer (some ⟨w3.heap.size + 1, 0, none⟩)) rfl).pin 13 (v := .pointer (some ⟨w5.heap.size, 0, none⟩)) rfl).pin 8 (v := .int .i64 0) rfl).pin 11 (v := .int .i64 0) rfl).pin 10 (v := .int .i64 0) rfl).pin 14 (v := .int .i64 0) rfl)
  generalize (fun i => Array.getD _ i undef) = g
  refine walks_with fun KQ hKQ => ?_
  (refine walks_one fun K hK => ?_); refine st_load6 L3 rfl rfl rfl ?_; refine hK _ ?_; clear hK K
  (refine walks_one fun K hK => ?_); refine st_call rfl rfl (fun _ => run_call22 rfl) (fun _ _ h => chk_over h rfl) ?_; refine hK _ ?_; clear hK K
  (refine walks_one fun K hK => ?_); refine st_load6 L3 rfl rfl rfl ?_; refine hK _ ?_; clear hK K
  (refine walks_one fun K hK => ?_); refine st_call rfl rfl (fun _ => run_call21 rfl) (fun _ _ h => mchk_over h rfl) ?_; refine hK _ ?_; clear hK K
  (refine walks_one fun K hK => ?_); refine st_pure rfl rfl (fun _ => run_eql27 rfl rfl) ?_; refine hK _ ?_; clear hK K
  (refine walks_one fun K hK => ?_); refine st_pure rfl rfl (fun _ => rfl) ?_; refine hK _ ?_; clear hK K
  (refine walks_one fun K hK => ?_); refine st_load6 L7 rfl rfl rfl ?_; refine hK _ ?_; clear hK K
  (refine walks_one fun K hK => ?_); refine st_load6 L12 rfl rfl rfl ?_; refine hK _ ?_; clear hK K
  (refine walks_one fun K hK => ?_); refine st_pure rfl rfl (fun _ => run_eql23 rfl rfl) ?_; refine hK _ ?_; clear hK K
  (refine walks_one fun K hK => ?_); refine st_pure rfl rfl (fun _ => rfl) ?_; refine hK _ ?_; clear hK K
  (refine walks_one fun K hK => ?_); refine st_pure rfl rfl (fun _ => rfl) ?_; refine hK _ ?_; clear hK K
  (refine walks_one fun K hK => ?_); refine st_pure rfl rfl (fun _ => rfl) ?_; refine hK _ ?_; clear hK K
  (refine walks_one fun K hK => ?_); refine st_pure rfl rfl (fun _ => rfl) ?_; refine hK _ ?_; clear hK K
  (refine walks_one fun K hK => ?_); refine st_pure rfl rfl (fun _ => run_eql27 rfl rfl) ?_; refine hK _ ?_; clear hK K
  (refine walks_one fun K hK => ?_); refine st_pure rfl rfl (fun _ => rfl) ?_; refine hK _ ?_; clear hK K
  (refine walks_one fun K hK => ?_); refine st_pure rfl rfl (fun _ => rfl) ?_; refine hK _ ?_; clear hK K
  (refine walks_one fun K hK => ?_); refine st_load6 L9 rfl rfl rfl ?_; refine hK _ ?_; clear hK K
  (refine walks_one fun K hK => ?_); refine st_load6 L13 rfl rfl rfl ?_; refine hK _ ?_; clear hK K
  (refine walks_one fun K hK => ?_); refine st_pure rfl rfl (fun _ => run_eql23 rfl rfl) ?_; refine hK _ ?_; clear hK K
  (refine walks_one fun K hK => ?_); refine st_pure rfl rfl (fun _ => rfl) ?_; refine hK _ ?_; clear hK K
  (refine walks_one fun K hK => ?_); refine st_pure rfl rfl (fun _ => rfl) ?_; refine hK _ ?_; clear hK K
  (refine walks_one fun K hK => ?_); refine st_pure rfl rfl (fun _ => rfl) ?_; refine hK _ ?_; clear hK K
  (refine walks_one fun K hK => ?_); refine st_pure rfl rfl (fun _ => rfl) ?_; refine hK _ ?_; clear hK K
  (refine walks_one fun K hK => ?_); refine st_pure rfl rfl (fun _ => run_eql27 rfl rfl) ?_; refine hK _ ?_; clear hK K
  (refine walks_one fun K hK => ?_); refine st_pure rfl rfl (fun _ => rfl) ?_; refine hK _ ?_; clear hK K
  refine walks_end fun a9 ha9 => hKQ _ fun w9 hC => ?_
  have e74 : a9.eval (.tmp 74) = .bool true := by rw [ha9.eval]; rfl
  refine tailB ?_
  refine hKn _ _ (wp_ret ?_)
  refine retB_is (ha9.put (d := 6) (by decide) _) Try.results6 ((upd_at _ _ _).trans e74) ?_
  exact And.intro rfl (below_next HB8.out hC)

set_option maxHeartbeats 1000000 in
theorem checks_b (a b c d e f x y : Int) (w : World) (hc : ¬ Wi 32767 [x, y]) (hs : Wi 1048576 [x, y]) :
    Calls Try.prog 6 #[mx a b c d e f, .int .i64 x, .int .i64 y] w fun r w' => r = .returned (.bool true) ∧ Below w.heap.size w w' := by
  have hg : Good x 0 0 y 0 0 := ⟨wi4.2 ⟨(wi2.1 hs).1, by omega, by omega, (wi2.1 hs).2⟩, wi2.2 (by omega)⟩
  have HC := hid hc
  have HS := hid hs
  have HG := hid hg
  clear hc hs hg
  have HV0 := hid (Var.new w #[.int .i64 a, .int .i64 b, .int .i64 c, .int .i64 d, .int .i64 e, .int .i64 f] 23 _ rfl)
  have HB0 := hid (below_alloc (Below.refl _ w) (.cells #[.int .i64 a, .int .i64 b, .int .i64 c, .int .i64 d, .int .i64 e, .int .i64 f] 23))
  go_enter Try.func6, Try.ntmps6
  go_wp2_with fail
  (with_reducible refine (ident_any _).mono ?_); rintro x0 w1 ⟨rfl, hb⟩
  have HV1 := hid (HV0.out.next hb)
  have HB1 := hid (below_next HB0.out hb)
  clear hb HV0 HB0
  go_wp2_with fail
  (with_reducible refine (shift_no x y _ HC.out).mono ?_); rintro x0 w2 ⟨rfl, hb⟩
  have HV2 := hid ((HV1.out.next hb).alloc (.cells #[.int .i64 0, .int .i64 0, .int .i64 0, .int .i64 0, .int .i64 0, .int .i64 0] 23))
  have HS2 := hid (Var.new w2 #[.int .i64 0, .int .i64 0, .int .i64 0, .int .i64 0, .int .i64 0, .int .i64 0] 23 _ rfl)
  have HB2 := hid (below_alloc (below_next HB1.out hb) (.cells #[.int .i64 0, .int .i64 0, .int .i64 0, .int .i64 0, .int .i64 0, .int .i64 0] 23))
  have n1 := (HV1.out.next hb).lt
  clear hb HV1 HB1
  go_wp2_with fail
  (with_reducible refine (scale_ok x y _ HS.out).mono ?_); rintro x0 w3 ⟨rfl, hb⟩
  have HV3 := hid (((HV2.out.next hb).alloc (.cells #[.int .i64 x, .int .i64 0, .int .i64 0, .int .i64 y, .int .i64 0, .int .i64 0] 23)).alloc (.cells #[.int .i64 0, .int .i64 0, .int .i64 0, .int .i64 0, .int .i64 0, .int .i64 0] 23))
  have HS3 := hid (((HS2.out.next hb).alloc (.cells #[.int .i64 x, .int .i64 0, .int .i64 0, .int .i64 y, .int .i64 0, .int .i64 0] 23)).alloc (.cells #[.int .i64 0, .int .i64 0, .int .i64 0, .int .i64 0, .int .i64 0, .int .i64 0] 23))
  have HT3 := hid ((Var.new w3 #[.int .i64 x, .int .i64 0, .int .i64 0, .int .i64 y, .int .i64 0, .int .i64 0] 23 _ rfl).alloc (.cells #[.int .i64 0, .int .i64 0, .int .i64 0, .int .i64 0, .int .i64 0, .int .i64 0] 23))
  have HU3 := hid (Var.new (w3.alloc (.cells #[.int .i64 x, .int .i64 0, .int .i64 0, .int .i64 y, .int .i64 0, .int .i64 0] 23)) #[.int .i64 0, .int .i64 0, .int .i64 0, .int .i64 0, .int .i64 0, .int .i64 0] 23 (w3.heap.size + 1) (by simp))
  have HB3 := hid (below_alloc (below_alloc (below_next HB2.out hb) (.cells #[.int .i64 x, .int .i64 0, .int .i64 0, .int .i64 y, .int .i64 0, .int .i64 0] 23)) (.cells #[.int .i64 0, .int .i64 0, .int .i64 0, .int .i64 0, .int .i64 0, .int .i64 0] 23))
  have n2 := (HS2.out.next hb).lt
  clear hb HV2 HS2 HB2
  go_wp2_with fail
  (with_reducible refine (coord_any false x y _ (iff_of_false Bool.false_ne_true HC.out)).mono ?_); rintro x0 w4 ⟨rfl, hb⟩
  have HV4 := hid (HV3.out.next hb)
  have HS4 := hid (HS3.out.next hb)
  have HT4 := hid (HT3.out.next hb)
  have HU4 := hid (HU3.out.next hb)
  have HB4 := hid (below_next HB3.out hb)
  clear hb HV3 HS3 HT3 HU3 HB3
  have HV7 := HV4
  have HS7 := HS4
  have HT7 := HT4
  have HU7 := HU4
  have HB7 := HB4
  clear HV4 HS4 HT4 HU4 HB4
  go_wp2_with fail
  (with_reducible refine (mchk_any _ _ _ _ _ _ _).mono ?_); rintro x0 w5 ⟨rfl, hb⟩
  rw [errM_good HG.out]
  have HV8 := hid ((HV7.out.next hb).alloc (.cells #[.int .i64 x, .int .i64 0, .int .i64 0, .int .i64 y, .int .i64 0, .int .i64 0] 23))
  have HS8 := hid ((HS7.out.next hb).alloc (.cells #[.int .i64 x, .int .i64 0, .int .i64 0, .int .i64 y, .int .i64 0, .int .i64 0] 23))
  have HT8 := hid ((HT7.out.next hb).alloc (.cells #[.int .i64 x, .int .i64 0, .int .i64 0, .int .i64 y, .int .i64 0, .int .i64 0] 23))
  have HU8 := hid ((HU7.out.next hb).alloc (.cells #[.int .i64 x, .int .i64 0, .int .i64 0, .int .i64 y, .int .i64 0, .int .i64 0] 23))
  have HW8 := hid (Var.new w5 #[.int .i64 x, .int .i64 0, .int .i64 0, .int .i64 y, .int .i64 0, .int .i64 0] 23 _ rfl)
  have HB8 := hid (below_alloc (below_next HB7.out hb) (.cells #[.int .i64 x, .int .i64 0, .int .i64 0, .int .i64 y, .int .i64 0, .int .i64 0] 23))
  clear hb HV7 HS7 HT7 HU7 HB7
  go_upto_region 11 with fail
  generalize w5.alloc (.cells #[.int .i64 x, .int .i64 0, .int .i64 0, .int .i64 y, .int .i64 0, .int .i64 0] 23) = w6 at HV8 HS8 HT8 HU8 HW8 HB8
  rename_i Kn hKn
  refine wp_region_fan 25 1000 (Over w6) (by kernel_rfl) (by kernel_rfl) (Over.start w6) ?_
  simp only [List.take_succ_cons, List.take_zero, List.drop_succ_cons, List.drop_zero]
  have L3 := fun b w1 (h : Over w6 b w1) => h.var HV8.out
  have L7 := fun b w1 (h : Over w6 b w1) => h.var HS8.out
  have L9 := fun b w1 (h : Over w6 b w1) => h.var HT8.out
  have L12 := fun b w1 (h : Over w6 b w1) => h.var HU8.out
  have L13 := fun b w1 (h : Over w6 b w1) => h.var HW8.out
  refine WalksE.sound _ _ _ _ ?_ ((((((((((Is.start _ (n := 75) rfl).pin 3 (v := .pointer (some ⟨w.heap.size, 0, none⟩)) rfl).pin 7 (v := .pointer (some ⟨w2.heap.size, 0, none⟩)) rfl).pin 9 (v := .pointer (some ⟨w3.heap.size, 0, none⟩)) rfl).pin 12 (v := .pointer (some ⟨w3.heap.size + 1, 0, none⟩)) rfl).pin 13 (v := .pointer (some ⟨w5.heap.size, 0, none⟩)) rfl).pin 8 (v := .int .i64 3) rfl).pin 11 (v := .int .i64 3) rfl).pin 10 (v := .int .i64 0) rfl).pin 14 (v := .int .i64 0) rfl)
  generalize (fun i => Array.getD _ i undef) = g
  refine walks_with fun KQ hKQ => ?_
  (refine walks_one fun K hK => ?_); refine st_load6 L3 rfl rfl rfl ?_; refine hK _ ?_; clear hK K
  (refine walks_one fun K hK => ?_); refine st_call rfl rfl (fun _ => run_call22 rfl) (fun _ _ h => chk_over h rfl) ?_; refine hK _ ?_; clear hK K
  (refine walks_one fun K hK => ?_); refine st_load6 L3 rfl rfl rfl ?_; refine hK _ ?_; clear hK K
  (refine walks_one fun K hK => ?_); refine st_call rfl rfl (fun _ => run_call21 rfl) (fun _ _ h => mchk_over h rfl) ?_; refine hK _ ?_; clear hK K
  (refine walks_one fun K hK => ?_); refine st_pure rfl rfl (fun _ => run_eql27 rfl rfl) ?_; refine hK _ ?_; clear hK K
  (refine walks_one fun K hK => ?_); refine st_pure rfl rfl (fun _ => rfl) ?_; refine hK _ ?_; clear hK K
  (refine walks_one fun K hK => ?_); refine st_load6 L7 rfl rfl rfl ?_; refine hK _ ?_; clear hK K
  (refine walks_one fun K hK => ?_); refine st_load6 L12 rfl rfl rfl ?_; refine hK _ ?_; clear hK K
  (refine walks_one fun K hK => ?_); refine st_pure rfl rfl (fun _ => run_eql23 rfl rfl) ?_; refine hK _ ?_; clear hK K
  (refine walks_one fun K hK => ?_); refine st_pure rfl rfl (fun _ => rfl) ?_; refine hK _ ?_; clear hK K
  (refine walks_one fun K hK => ?_); refine st_pure rfl rfl (fun _ => rfl) ?_; refine hK _ ?_; clear hK K
  (refine walks_one fun K hK => ?_); refine st_pure rfl rfl (fun _ => rfl) ?_; refine hK _ ?_; clear hK K
  (refine walks_one fun K hK => ?_); refine st_pure rfl rfl (fun _ => rfl) ?_; refine hK _ ?_; clear hK K
  (refine walks_one fun K hK => ?_); refine st_pure rfl rfl (fun _ => run_eql27 rfl rfl) ?_; refine hK _ ?_; clear hK K
  (refine walks_one fun K hK => ?_); refine st_pure rfl rfl (fun _ => rfl) ?_; refine hK _ ?_; clear hK K
  (refine walks_one fun K hK => ?_); refine st_pure rfl rfl (fun _ => rfl) ?_; refine hK _ ?_; clear hK K
  (refine walks_one fun K hK => ?_); refine st_load6 L9 rfl rfl rfl ?_; refine hK _ ?_; clear hK K
  (refine walks_one fun K hK => ?_); refine st_load6 L13 rfl rfl rfl ?_; refine hK _ ?_; clear hK K
  (refine walks_one fun K hK => ?_); refine st_pure rfl rfl (fun _ => run_eql23 rfl rfl) ?_; refine hK _ ?_; clear hK K
  (refine walks_one fun K hK => ?_); refine st_pure rfl rfl (fun _ => rfl) ?_; refine hK _ ?_; clear hK K
  (refine walks_one fun K hK => ?_); refine st_pure rfl rfl (fun _ => rfl) ?_; refine hK _ ?_; clear hK K
  (refine walks_one fun K hK => ?_); refine st_pure rfl rfl (fun _ => rfl) ?_; refine hK _ ?_; clear hK K
  (refine walks_one fun K hK => ?_); refine st_pure rfl rfl (fun _ => rfl) ?_; refine hK _ ?_; clear hK K
  (refine walks_one fun K hK => ?_); refine st_pure rfl rfl (fun _ => run_eql27 rfl rfl) ?_; refine hK _ ?_; clear hK K
  (refine walks_one fun K hK => ?_); refine st_pure rfl rfl (fun _ => rfl) ?_; refine hK _ ?_; clear hK K
  refine walks_end fun a9 ha9 => hKQ _ fun w9 hC => ?_
  have e74 : a9.eval (.tmp 74) = .bool true := by rw [ha9.eval]; rfl
  refine tailB ?_
  refine hKn _ _ (wp_ret ?_)
  refine retB_is (ha9.put (d := 6) (by decide) _) Try.results6 ((upd_at _ _ _).trans e74) ?_
  exact And.intro rfl (below_next HB8.out hC)

set_option maxHeartbeats 1000000 in
theorem checks_c (a b c d e f x y : Int) (w : World) (hc : ¬ Wi 32767 [x, y]) (hs : ¬ Wi 1048576 [x, y]) :
    Calls Try.prog 6 #[mx a b c d e f, .int .i64 x, .int .i64 y] w fun r w' => r = .returned (.bool true) ∧ Below w.heap.size w w' := by
  have hg : ¬ Good x 0 0 y 0 0 := fun h => hs (wi2.2 ⟨(wi4.1 h.1).1, (wi4.1 h.1).2.2.2⟩)
  have HC := hid hc
  have HS := hid hs
  have HG := hid hg
  clear hc hs hg
  have HV0 := hid (Var.new w #[.int .i64 a, .int .i64 b, .int .i64 c, .int .i64 d, .int .i64 e, .int .i64 f] 23 _ rfl)
  have HB0 := hid (below_alloc (Below.refl _ w) (.cells #[.int .i64 a, .int .i64 b, .int .i64 c, .int .i64 d, .int .i64 e, .int .i64 f] 23))
  go_enter Try.func6, Try.ntmps6
  go_wp2_with fail
  (with_reducible refine (ident_any _).mono ?_); rintro x0 w1 ⟨rfl, hb⟩
  have HV1 := hid (HV0.out.next hb)
  have HB1 := hid (below_next HB0.out hb)
  clear hb HV0 HB0
  go_wp2_with fail
  (with_reducible refine (shift_no x y _ HC.out).mono ?_); rintro x0 w2 ⟨rfl, hb⟩
  have HV2 := hid ((HV1.out.next hb).alloc (.cells #[.int .i64 0, .int .i64 0, .int .i64 0, .int .i64 0, .int .i64 0, .int .i64 0] 23))
  have HS2 := hid (Var.new w2 #[.int .i64 0, .int .i64 0, .int .i64 0, .int .i64 0, .int .i64 0, .int .i64 0] 23 _ rfl)
  have HB2 := hid (below_alloc (below_next HB1.out hb) (.cells #[.int .i64 0, .int .i64 0, .int .i64 0, .int .i64 0, .int .i64 0, .int .i64 0] 23))
  have n1 := (HV1.out.next hb).lt
  clear hb HV1 HB1
  go_wp2_with fail
  (with_reducible refine (scale_no x y _ HS.out).mono ?_); rintro x0 w3 ⟨rfl, hb⟩
  have HV3 := hid (((HV2.out.next hb).alloc (.cells #[.int .i64 0, .int .i64 0, .int .i64 0, .int .i64 0, .int .i64 0, .int .i64 0] 23)).alloc (.cells #[.int .i64 0, .int .i64 0, .int .i64 0, .int .i64 0, .int .i64 0, .int .i64 0] 23))
  have HS3 := hid (((HS2.out.next hb).alloc (.cells #[.int .i64 0, .int .i64 0, .int .i64 0, .int .i64 0, .int .i64 0, .int .i64 0] 23)).alloc (.cells #[.int .i64 0, .int .i64 0, .int .i64 0, .int .i64 0, .int .i64 0, .int .i64 0] 23))
  have HT3 := hid ((Var.new w3 #[.int .i64 0, .int .i64 0, .int .i64 0, .int .i64 0, .int .i64 0, .int .i64 0] 23 _ rfl).alloc (.cells #[.int .i64 0, .int .i64 0, .int .i64 0, .int .i64 0, .int .i64 0, .int .i64 0] 23))
  have HU3 := hid (Var.new (w3.alloc (.cells #[.int .i64 0, .int .i64 0, .int .i64 0, .int .i64 0, .int .i64 0, .int .i64 0] 23)) #[.int .i64 0, .int .i64 0, .int .i64 0, .int .i64 0, .int .i64 0, .int .i64 0] 23 (w3.heap.size + 1) (by simp))
  have HB3 := hid (below_alloc (below_alloc (below_next HB2.out hb) (.cells #[.int .i64 0, .int .i64 0, .int .i64 0, .int .i64 0, .int .i64 0, .int .i64 0] 23)) (.cells #[.int .i64 0, .int .i64 0, .int .i64 0, .int .i64 0, .int .i64 0, .int .i64 0] 23))
  have n2 := (HS2.out.next hb).lt
  clear hb HV2 HS2 HB2
  go_wp2_with fail
  (with_reducible refine (coord_any false x y _ (iff_of_false Bool.false_ne_true HC.out)).mono ?_); rintro x0 w4 ⟨rfl, hb⟩
  have HV4 := hid (HV3.out.next hb)
  have HS4 := hid (HS3.out.next hb)
  have HT4 := hid (HT3.out.next hb)
  have HU4 := hid (HU3.out.next hb)
  have HB4 := hid (below_next HB3.out hb)
  clear hb HV3 HS3 HT3 HU3 HB3
  have HV7 := HV4
  have HS7 := HS4
  have HT7 := HT4
  have HU7 := HU4
  have HB7 := HB4
  clear HV4 HS4 HT4 HU4 HB4
  go_wp2_with fail
  (with_reducible refine (mchk_any _ _ _ _ _ _ _).mono ?_); rintro x0 w5 ⟨rfl, hb⟩
  rw [errM_bad HG.out]
  have HV8 := hid ((HV7.out.next hb).alloc (.cells #[.int .i64 0, .int .i64 0, .int .i64 0, .int .i64 0, .int .i64 0, .int .i64 0] 23))
  have HS8 := hid ((HS7.out.next hb).alloc (.cells #[.int .i64 0, .int .i64 0, .int .i64 0, .int .i64 0, .int .i64 0, .int .i64 0] 23))
  have HT8 := hid ((HT7.out.next hb).alloc (.cells #[.int .i64 0, .int .i64 0, .int .i64 0, .int .i64 0, .int .i64 0, .int .i64 0] 23))
  have HU8 := hid ((HU7.out.next hb).alloc (.cells #[.int .i64 0, .int .i64 0, .int .i64 0, .int .i64 0, .int .i64 0, .int .i64 0] 23))
  have HW8 := hid (Var.new w5 #[.int .i64 0, .int .i64 0, .int .i64 0, .int .i64 0, .int .i64 0, .int .i64 0] 23 _ rfl)
  have HB8 := hid (below_alloc (below_next HB7.out hb) (.cells #[.int .i64 0, .int .i64 0, .int .i64 0, .int .i64 0, .int .i64 0, .int .i64 0] 23))
  clear hb HV7 HS7 HT7 HU7 HB7
  go_upto_region 11 with fail
  generalize w5.alloc (.cells #[.int .i64 0, .int .i64 0, .int .i64 0, .int .i64 0, .int .i64 0, .int .i64 0] 23) = w6 at HV8 HS8 HT8 HU8 HW8 HB8
  rename_i Kn hKn
  refine wp_region_fan 25 1000 (Over w6) (by kernel_rfl) (by kernel_rfl) (Over.start w6) ?_
  simp only [List.take_succ_cons, List.take_zero, List.drop_succ_cons, List.drop_zero]
  have L3 := fun b w1 (h : Over w6 b w1) => h.var HV8.out
  have L7 := fun b w1 (h : Over w6 b w1) => h.var HS8.out
  have L9 := fun b w1 (h : Over w6 b w1) => h.var HT8.out
  have L12 := fun b w1 (h : Over w6 b w1) => h.var HU8.out
  have L13 := fun b w1 (h : Over w6 b w1) => h.var HW8.out
  refine WalksE.sound _ _ _ _ ?_ ((((((((((Is.start _ (n := 75) rfl).pin 3 (v := .pointer (some ⟨w.heap.size, 0, none⟩)) rfl).pin 7 (v := .pointer (some ⟨w2.heap.size, 0, none⟩)) rfl).pin 9 (v := .pointer (some ⟨w3.heap.size, 0, none⟩)) rfl).pin 12 (v := .pointer (some ⟨w3.heap.size + 1, 0, none⟩)) rfl).pin 13 (v := .pointer (some ⟨w5.heap.size, 0, none⟩)) rfl).pin 8 (v := .int .i64 3) rfl).pin 11 (v := .int .i64 3) rfl).pin 10 (v := .int .i64 3) rfl).pin 14 (v := .int .i64 3) rfl)
  generalize (fun i => Array.getD _ i undef) = g
  refine walks_with fun KQ hKQ => ?_
  (refine walks_one fun K hK => ?_); refine st_load6 L3 rfl rfl rfl ?_; refine hK _ ?_; clear hK K
  (refine walks_one fun K hK => ?_); refine st_call rfl rfl (fun _ => run_call22 rfl) (fun _ _ h => chk_over h rfl) ?_; refine hK _ ?_; clear hK K
  (refine walks_one fun K hK => ?_); refine st_load6 L3 rfl rfl rfl ?_; refine hK _ ?_; clear hK K
  (refine walks_one fun K hK => ?_); refine st_call rfl rfl (fun _ => run_call21 rfl) (fun _ _ h => mchk_over h rfl) ?_; refine hK _ ?_; clear hK K
  (refine walks_one fun K hK => ?_); refine st_pure rfl rfl (fun _ => run_eql27 rfl rfl) ?_; refine hK _ ?_; clear hK K
  (refine walks_one fun K hK => ?_); refine st_pure rfl rfl (fun _ => rfl) ?_; refine hK _ ?_; clear hK K
  (refine walks_one fun K hK => ?_); refine st_load6 L7 rfl rfl rfl ?_; refine hK _ ?_; clear hK K
  (refine walks_one fun K hK => ?_); refine st_load6 L12 rfl rfl rfl ?_; refine hK _ ?_; clear hK K
  (refine walks_one fun K hK => ?_); refine st_pure rfl rfl (fun _ => run_eql23 rfl rfl) ?_; refine hK _ ?_; clear hK K
  (refine walks_one fun K hK => ?_); refine st_pure rfl rfl (fun _ => rfl) ?_; refine hK _ ?_; clear hK K
  (refine walks_one fun K hK => ?_); refine st_pure rfl rfl (fun _ => rfl) ?_; refine hK _ ?_; clear hK K
  (refine walks_one fun K hK => ?_); refine st_pure rfl rfl (fun _ => rfl) ?_; refine hK _ ?_; clear hK K
  (refine walks_one fun K hK => ?_); refine st_pure rfl rfl (fun _ => rfl) ?_; refine hK _ ?_; clear hK K
  (refine walks_one fun K hK => ?_); refine st_pure rfl rfl (fun _ => run_eql27 rfl rfl) ?_; refine hK _ ?_; clear hK K
  (refine walks_one fun K hK => ?_); refine st_pure rfl rfl (fun _ => rfl) ?_; refine hK _ ?_; clear hK K
  (refine walks_one fun K hK => ?_); refine st_pure rfl rfl (fun _ => rfl) ?_; refine hK _ ?_; clear hK K
  (refine walks_one fun K hK => ?_); refine st_load6 L9 rfl rfl rfl ?_; refine hK _ ?_; clear hK K
  (refine walks_one fun K hK => ?_); refine st_load6 L13 rfl rfl rfl ?_; refine hK _ ?_; clear hK K
  (refine walks_one fun K hK => ?_); refine st_pure rfl rfl (fun _ => run_eql23 rfl rfl) ?_; refine hK _ ?_; clear hK K
  (refine walks_one fun K hK => ?_); refine st_pure rfl rfl (fun _ => rfl) ?_; refine hK _ ?_; clear hK K
  (refine walks_one fun K hK => ?_); refine st_pure rfl rfl (fun _ => rfl) ?_; refine hK _ ?_; clear hK K
  (refine walks_one fun K hK => ?_); refine st_pure rfl rfl (fun _ => rfl) ?_; refine hK _ ?_; clear hK K
  (refine walks_one fun K hK => ?_); refine st_pure rfl rfl (fun _ => rfl) ?_; refine hK _ ?_; clear hK K
  (refine walks_one fun K hK => ?_); refine st_pure rfl rfl (fun _ => run_eql27 rfl rfl) ?_; refine hK _ ?_; clear hK K
  (refine walks_one fun K hK => ?_); refine st_pure rfl rfl (fun _ => rfl) ?_; refine hK _ ?_; clear hK K
  refine walks_end fun a9 ha9 => hKQ _ fun w9 hC => ?_
  have e74 : a9.eval (.tmp 74) = .bool true := by rw [ha9.eval]; rfl
  refine tailB ?_
  refine hKn _ _ (wp_ret ?_)
  refine retB_is (ha9.put (d := 6) (by decide) _) Try.results6 ((upd_at _ _ _).trans e74) ?_
  exact And.intro rfl (below_next HB8.out hC)

theorem rest (a b c d e f x y : Int) (w : World) : Calls Try.prog 6 #[mx a b c d e f, .int .i64 x, .int .i64 y] w fun r w' => r = .returned (.bool true) ∧ Below w.heap.size w w' := by
  by_cases hc : Wi 32767 [x, y]
  · exact checks_a _ _ _ _ _ _ _ _ w hc (wi2.2 (by have := wi2.1 hc; omega))
  · by_cases hs : Wi 1048576 [x, y]
    · exact checks_b _ _ _ _ _ _ _ _ w hc hs
    · exact checks_c _ _ _ _ _ _ _ _ w hc hs

set_option maxRecDepth 100000 in
theorem lifted (os : Os) (started : os.Started) (H : Type) (enc : TypeId × Value → H) :
    ReturnsInHanded {} Try.checked os 6 .any (Rows.affineChecksSpec.pre6 enc Try.prog Try.f6 Rows.affineChecksRow.domain false) (Rows.affineChecksSpec.post enc Try.prog Try.f6 false true false false) := by
  refine returnsInHanded_of_change (C := Try.checked) own started (by kernel_rfl) Try.func6
    (ChangeSpec.witness6 (enc := enc) (C := Try.checked) false ⟨#[], #[.agg #[.int .i64 0, .int .i64 0, .int .i64 0, .int .i64 0, .int .i64 0, .int .i64 0], .int .i64 0, .int .i64 0], []⟩ 8 (by kernel_rfl) (by kernel_rfl) (by kernel_rfl) (by kernel_rfl)) ?_
  intro W base args ds gs before hval0 hW hcnd _
  have hval : ∀ (j : Nat) t v, Try.f6.params[j]? = some t → args[j]? = some v → Value.okWide Try.prog W .any base t v := hval0
  have hW' := hW
  obtain ⟨p, q, hA0, hV, rfl, hfz, hnd⟩ := hW
  have hA : DataW.TrodAll enc Try.prog W 0 (fun _ => true) true Try.f6.params.toList args.toList ds p := hA0
  rw [Try.params6] at hA hval
  obtain ⟨v0, vs0, d0, ds0, p0, q0, hargs, rfl, rfl, h0, r0⟩ := trodAll_cons hA
  obtain ⟨v1, vs1, d1, ds1, p1, q1, rfl, rfl, rfl, h1, r1⟩ := trodAll_cons r0
  obtain ⟨v2, vs2, d2, ds2, p2, q2, rfl, rfl, rfl, h2, r2⟩ := trodAll_cons r1
  obtain ⟨rfl, rfl, rfl⟩ := trodAll_nil r2
  obtain rfl : args = #[v0, v1, v2] := by cases args; simp_all
  obtain ⟨rfl, rfl⟩ := trodVars_none hV
  have k0 := h0
  have lt0 : ∀ x ∈ p0, x.block < W.heap.size := by obtain ⟨m, hm⟩ := k0; exact DataW.trod_lt m _ _ _ hm
  obtain ⟨x0_0, x0_1, x0_2, x0_3, x0_4, x0_5, rfl⟩ := open_mx Try.underlying23 (by kernel_rfl) (by kernel_rfl) (by kernel_rfl) (hval 0 23 v0 rfl rfl) h0
  obtain ⟨x1, rfl, rfl, rfl, w1⟩ := open_int Try.underlying3 (hval 1 3 v1 rfl rfl) h1
  obtain ⟨x2, rfl, rfl, rfl, w2⟩ := open_int Try.underlying3 (hval 2 3 v2 rfl rfl) h2
  clear hA0 hval0
  refine (rest x0_0 x0_1 x0_2 x0_3 x0_4 x0_5 x1 x2 W).mono fun e W' ⟨he, bel⟩ => ?_
  subst he
  exact ⟨_, rfl, _, _, _, [], _, [], hW', trodAll_mk1 (shut_bool Try.underlying4 _), (trodAll_cons_mk (Below.trod laidOut (by kernel_rfl) (of_decide_eq_true (by kernel_rfl)) k0 bel lt0) (trodAll_cons_mk (shut_int Try.underlying3 w1) (trodAll_cons_mk (shut_int Try.underlying3 w2) trodAll_mk0))), rfl, bel.frame _, fun h => by cases h⟩

theorem over : Rows.affineChecksRow.holds Try.pinned (OpenSpec.ofChange Rows.affineChecksSpec) :=
  OpenClaim.holds_of_wide 6 Try.f6 rfl rfl rfl rfl rfl rfl rfl ⟨rfl, rfl, rfl, rfl, rfl⟩ rfl rfl rfl rfl rfl (by kernel_rfl) Try.func6 (by kernel_rfl)
    (of_decide_eq_true (by kernel_rfl)) (by unfold Func.isWrapper; first | (rw [if_pos (by decide +kernel)]; kernel_rfl) | (rw [if_neg (by decide +kernel)]; exact ⟨rfl, rfl⟩))
    (fun os started H enc _ => lifted os started H enc)

/-- The statement. -/
theorem proved : Rows.AffineChecksSaid := over
end Go.Proofs.Ytdelhelfphblcaa.affineChecks
