/- A region that is shifted keeps its area, and is shifted back; for every input. -/
import Derived.Test.YtepnpnidbpaimaaRows
import Derived.WalkKit
import Derived.ProofKit
import Derived.OpenShut
import Derived.ChangeOld
import Derived.Below
import Derived.Test.YtepnpnidbpaimaaOpen
import Derived.Test.YtepnpnidbpaimaaBack
import Derived.Test.YtepnpnidbpaimaaUni
namespace Go.Proofs.Ytepnpnidbpaimaa.regionShiftBack
open Go Go.ChangeShapes Go.WideShapes Go.ChangeAt Go.RowKit Go.Deep
set_option linter.unusedVariables false

set_option maxHeartbeats 8000000 in
set_option maxRecDepth 100000 in
theorem rest (A : Option Addr) (n c : Nat) (ss : List Rn) (dx dy : Int) (W : World) (hn : n = ss.length) (hs : Runs W A ss) (hm : ss.length ≤ maxLen) :
    Calls Try.prog 6 #[.slice A n c, .int .i64 dx, .int .i64 dy] W fun e w' => e = .returned (.bool true) ∧ Below W.heap.size W w' := by
  have HS := hid hs
  have HN := hid hn
  have HM := hid (show n ≤ maxLen by rw [hn]; exact hm)
  clear hs hn hm
  go_enter Try.func6, Try.ntmps6
  go_wp2_with fail
  (with_reducible refine (unites_any _).mono ?_); rintro e w1 ⟨rfl, hb1⟩
  have HB1 := hid hb1
  have HS1 := hid (HS.out.next hb1)
  clear hb1 HS
  go_wp2_with fail
  (with_reducible refine (near_any A ss n c 100 _ HN.out (by exact HM.out) HS1.out (by omega) (by omega)).mono ?_); rintro e w2 ⟨v2, rs, rfl, ho, hb2, hc2, hl2, ps, hmd, hsq⟩
  obtain ⟨A2, c2, hv2, hr2⟩ := ho.is
  obtain ⟨l, hL⟩ : ∃ l, l = rs.length := ⟨_, rfl⟩
  rw [← hL] at hv2
  have hlb : l ≤ 1000000000 := by omega
  have HL := hid hL
  have HC := hid hc2
  have HB2 := hid (below_next HB1.out hb2)
  have HR := hid hr2
  have HMD := hid hmd
  have HSQ := hid hsq
  clear ho hb2 hc2 hl2 hL hmd hsq hr2 HS1 HB1
  subst hv2
  go_wp2_with fail
  (with_reducible refine (cut_val dx (-8000) 8000 _ (by omega) (by omega) (by omega)).mono ?_); rintro e w3 ⟨rfl, rfl⟩
  obtain ⟨hx1, hx2⟩ := cutV_in dx (-8000) 8000 (by omega)
  generalize cutV dx (-8000) 8000 = x at hx1 hx2 ⊢
  go_wp2_with fail
  (with_reducible refine (cut_val dy (-8000) 8000 _ (by omega) (by omega) (by omega)).mono ?_); rintro e w4 ⟨rfl, rfl⟩
  obtain ⟨hy1, hy2⟩ := cutV_in dy (-8000) 8000 (by omega)
  generalize cutV dy (-8000) 8000 = y at hy1 hy2 ⊢
  have HBK := hid (bk (dx := x) (dy := y) HMD.out HSQ.out ⟨hx1, hx2⟩ ⟨hy1, hy2⟩)
  go_wp2_with fail
  (with_reducible refine (shift_good A2 rs l c2 x y _ HL.out HR.out HC.out (by omega) (by omega)).mono ?_); rintro e w5 hg
  rw [HBK.out.s1] at hg
  obtain ⟨A3, c3, rfl, hr3, hb3⟩ := hg.mono
  have HL3 := hid (show l = (rs.map (mv x y)).length by rw [List.length_map]; exact HL.out)
  rw [← HL3.out]
  have HB3 := hid (below_next HB2.out hb3)
  have HR1 := hid (HR.out.next hb3)
  have HT := hid hr3
  clear hg hr3 hb3 HR HB2
  have e1 : IntKind.i64.wrap (-x) = -x := IntWalk.i64_in _ (by omega)
  have e2 : IntKind.i64.wrap (-y) = -y := IntWalk.i64_in _ (by omega)
  go_wp2_with fail
  (with_reducible refine (shift_good A3 (rs.map (mv x y)) l c3 (-x) (-y) _ HL3.out HT.out HBK.out.c1 (by omega) (by omega)).mono ?_); rintro e w6 hg
  rw [HBK.out.s2] at hg
  obtain ⟨A4, c4, rfl, hr4, hb4⟩ := hg.mono
  rw [← HL.out]
  have HB4 := hid (below_next HB3.out hb4)
  have HR2 := hid (HR1.out.next hb4)
  have HT2 := hid (HT.out.next hb4)
  have HU := hid hr4
  clear hg hr4 hb4 HR1 HT HB3 e1 e2
  go_wp2_with fail
  (with_reducible refine (area_any A2 rs l c2 _ HL.out HR2.out HC.out).mono ?_); rintro e w7 ⟨rfl, hb5⟩
  have HB5 := hid (below_next HB4.out hb5)
  have HR3 := hid (HR2.out.next hb5)
  have HT3 := hid (HT2.out.next hb5)
  have HU3 := hid (HU.out.next hb5)
  clear hb5 HR2 HT2 HU HB4
  go_wp2_with fail
  (with_reducible refine (area_any A3 (rs.map (mv x y)) l c3 _ HL3.out HT3.out HBK.out.c1).mono ?_); rintro e w8 ⟨rfl, hb6⟩
  rw [areaL_mv]
  generalize areaL rs = ar
  have HB6 := hid (below_next HB5.out hb6)
  have HR4 := hid (HR3.out.next hb6)
  have HU4 := hid (HU3.out.next hb6)
  clear hb6 HR3 HT3 HU3 HB5
  go_wp2_with (go_at_call 22; (with_reducible refine (equal_any A2 A4 l c2 l c4 rs rs _ HL.out HL.out (by unfold maxLen; omega) (by unfold maxLen; omega) HR4.out HU4.out).mono ?_); rintro e w9 ⟨rfl, hb7⟩; rw [show decide (rs = rs) = true from decide_eq_true rfl]; have HB7 := hid (below_next HB6.out hb7); clear hb7)
  go_ret
  exact ⟨rfl, HB7.out⟩

set_option maxRecDepth 100000 in
theorem lifted (os : Os) (started : os.Started) (H : Type) (enc : TypeId × Value → H) :
    ReturnsInHanded {} Try.checked os 6 .any (Rows.regionShiftBackSpec.pre6 enc Try.prog Try.f6 Rows.regionShiftBackRow.domain false) (Rows.regionShiftBackSpec.post enc Try.prog Try.f6 false true false false) := by
  refine returnsInHanded_of_change (C := Try.checked) own started (by kernel_rfl) Try.func6
    (ChangeSpec.witness6 (enc := enc) (C := Try.checked) false ⟨#[], #[.slice none 0 0, .int .i64 0, .int .i64 0], []⟩ 8 (by kernel_rfl) (by kernel_rfl) (by kernel_rfl) (by kernel_rfl)) ?_
  intro W base args ds gs before hval0 hW hcnd _
  have hval : ∀ (j : Nat) t v, Try.f6.params[j]? = some t → args[j]? = some v → Value.okWide Try.prog W .any base t v := hval0
  have hW' := hW
  obtain ⟨p, q, hA0, hV, rfl, hfz, hnd⟩ := hW
  have hA : DataW.TrodAll enc Try.prog W 0 (fun _ => true) true Try.f6.params.toList args.toList ds p := hA0
  rw [Try.params6] at hA hval
  obtain ⟨v0, vs0, d0, ds0, p0, q0, hargs, rfl, rfl, h0, r0⟩ := trodAll_cons hA
  obtain ⟨v1, vs1, d1, ds1, p1, q1, rfl, rfl, rfl, h1, r1⟩ := trodAll_cons r0
  obtain ⟨v2, vs2, d2, ds2, p2, q2, rfl, rfl, rfl, h2, r2⟩ := trodAll_cons r1
  obtain ⟨rfl, rfl, rfl⟩ := trodAll_nil r2
  obtain rfl : args = #[v0, v1, v2] := by cases args; simp_all
  obtain ⟨rfl, rfl⟩ := trodVars_none hV
  have k0 := h0
  have lt0 : ∀ x ∈ p0, x.block < W.heap.size := by obtain ⟨m, hm⟩ := k0; exact DataW.trod_lt m _ _ _ hm
  obtain ⟨A0, n0, c0, ss0, rfl, hn0, hs0, hm0⟩ := open_runs Try.underlying22 Try.underlying30 (by kernel_rfl) (by kernel_rfl) (by kernel_rfl) (hval 0 22 v0 rfl rfl) h0
  obtain ⟨x1, rfl, rfl, rfl, w1⟩ := open_int Try.underlying3 (hval 1 3 v1 rfl rfl) h1
  obtain ⟨x2, rfl, rfl, rfl, w2⟩ := open_int Try.underlying3 (hval 2 3 v2 rfl rfl) h2
  clear hA0 hval0
  refine (rest A0 n0 c0 ss0 x1 x2 W hn0 hs0 hm0).mono fun e W' ⟨he, bel⟩ => ?_
  subst he
  exact ⟨_, rfl, _, _, _, [], _, [], hW', trodAll_mk1 (shut_bool Try.underlying4 _), (trodAll_cons_mk (Below.trod laidOut (by kernel_rfl) (of_decide_eq_true (by kernel_rfl)) k0 bel lt0) (trodAll_cons_mk (shut_int Try.underlying3 w1) (trodAll_cons_mk (shut_int Try.underlying3 w2) trodAll_mk0))), rfl, bel.frame _, fun h => by cases h⟩

theorem over : Rows.regionShiftBackRow.holds Try.pinned (OpenSpec.ofChange Rows.regionShiftBackSpec) :=
  OpenClaim.holds_of_wide 6 Try.f6 rfl rfl rfl rfl rfl rfl rfl ⟨rfl, rfl, rfl, rfl, rfl⟩ rfl rfl rfl rfl rfl (by kernel_rfl) Try.func6 (by kernel_rfl)
    (of_decide_eq_true (by kernel_rfl)) (by unfold Func.isWrapper; first | (rw [if_pos (by decide +kernel)]; kernel_rfl) | (rw [if_neg (by decide +kernel)]; exact ⟨rfl, rfl⟩))
    (fun os started H enc _ => lifted os started H enc)

/-- The statement. -/
theorem proved : Rows.RegionShiftBackSaid := over
end Go.Proofs.Ytepnpnidbpaimaa.regionShiftBack
