/- Shift of package region returns the runs that the reference shifts, without those that leave the permitted cells, or its errors; for every input. -/
import Derived.Test.YtepnpnidbpaimaaRows
import Derived.WalkKit
import Derived.ProofKit
import Derived.OpenShut
import Derived.ChangeOld
import Derived.Below
import Derived.Test.YtepnpnidbpaimaaOpen
import Derived.Test.YtepnpnidbpaimaaShifted
namespace Go.Proofs.Ytepnpnidbpaimaa.regionShiftCells
open Go Go.ChangeShapes Go.WideShapes Go.ChangeAt Go.RowKit Go.Deep
set_option linter.unusedVariables false

set_option maxHeartbeats 3200000 in
set_option maxRecDepth 100000 in
theorem rest (A : Option Addr) (n c : Nat) (ss : List Rn) (dx dy : Int) (W : World) (hn : n = ss.length) (hs : Runs W A ss) (hm : ss.length ≤ maxLen) :
    Calls Try.prog 14 #[.slice A n c, .int .i64 dx, .int .i64 dy] W fun e w' => e = .returned (.bool true) ∧ Below W.heap.size W w' := by
  have HS := hid hs
  have HN := hid hn
  rw [← hn] at hm
  clear hs hn
  by_cases hc : chk ss = 0
  · by_cases h1 : -16384 ≤ dx ∧ dx ≤ 16384
    · by_cases h2 : -16384 ≤ dy ∧ dy ≤ 16384
      · have HC := hid hc
        clear hc
        go_enter Try.func14, Try.ntmps14
        go_wp2_with fail
        (with_reducible refine (regions_any _).mono ?_); rintro e w1 ⟨rfl, hb⟩
        have HB1 := hid hb
        have HS1 := hid (HS.out.next hb)
        clear hb HS
        go_wp2_with fail
        (with_reducible refine (shift_good A ss n c dx dy _ HN.out HS1.out HC.out h1 h2).mono ?_); rintro e w2 hg
        obtain ⟨A2, c2, rfl, hr, hb2⟩ := hg.mono
        have HB2 := hid (below_next HB1.out hb2)
        have HS2 := hid (HS1.out.next hb2)
        have HR := hid hr
        have hrm : (shiftL dx dy ss).length ≤ maxLen := by have := shiftL_len dx dy ss; have := HN.out; omega
        clear hg hr hb2 HS1 HB1
        go_wp2_with fail
        (with_reducible refine (rcheck_any A ss n c _ HN.out hm HS2.out).mono ?_); rintro e w3 ⟨rfl, hb3⟩
        rw [HC.out]
        have HB3 := hid (below_next HB2.out hb3)
        have HS3 := hid (HS2.out.next hb3)
        have HR3 := hid (HR.out.next hb3)
        clear hb3 HS2 HB2 HR
        go_wp2_with (go_at_call 40; (with_reducible refine (in_t _ _ _ _ (by assumption)).mono ?_); rintro e w' ⟨rfl, rfl⟩)
        (with_reducible refine (shifted_any A ss n c dx dy _ HN.out HS3.out HC.out h1 h2).mono ?_); rintro e w4 ⟨v, rfl, ho, hb4⟩
        obtain ⟨A4, c4, rfl, hr4⟩ := ho.is
        have HB4 := hid (below_next HB3.out hb4)
        have HR4 := hid (HR3.out.next hb4)
        have HR5 := hid hr4
        clear hb4 ho hr4 HB3 HR3
        go_wp2_with fail
        (with_reducible refine (same_any A2 A4 _ c2 _ c4 _ _ _ rfl rfl hrm hrm HR4.out HR5.out).mono ?_); rintro e w5 ⟨rfl, hb5⟩
        rw [show decide (shiftL dx dy ss = shiftL dx dy ss) = true from decide_eq_true rfl]
        have HB5 := hid (below_next HB4.out hb5)
        clear hb5
        go_wp2_with fail
        go_ret
        exact ⟨rfl, HB5.out⟩
      · have HE := hid (show shE ss dx dy = 3 by unfold shE; rw [if_pos hc, if_neg (fun k => h2 k.2)])
        have HC := hid hc
        clear hc
        go_enter Try.func14, Try.ntmps14
        go_wp2_with fail
        (with_reducible refine (regions_any _).mono ?_); rintro e w1 ⟨rfl, hb⟩
        have HB1 := hid hb
        have HS1 := hid (HS.out.next hb)
        clear hb HS
        go_wp2_with fail
        (with_reducible refine (shift_bad A ss n c dx dy _ HN.out hm HS1.out (by rw [HE.out]; decide)).mono ?_); rintro e w2 hg
        rw [HE.out] at hg
        obtain ⟨A2, c2, rfl, hr, hb2⟩ := hg.mono
        have HB2 := hid (below_next HB1.out hb2)
        have HS2 := hid (HS1.out.next hb2)
        clear hg hr hb2 HS1 HB1
        go_wp2_with fail
        (with_reducible refine (rcheck_any A ss n c _ HN.out hm HS2.out).mono ?_); rintro e w3 ⟨rfl, hb3⟩
        rw [HC.out]
        have HB3 := hid (below_next HB2.out hb3)
        clear hb3 HS2 HB2
        go_wp2_with (go_at_call 40; (first | (with_reducible refine (in_t _ _ _ _ (by assumption)).mono ?_) | (with_reducible refine (in_f _ _ _ _ (by assumption)).mono ?_)); rintro e w' ⟨rfl, rfl⟩)
        go_ret
        exact ⟨rfl, HB3.out⟩
    · have HE := hid (show shE ss dx dy = 3 by unfold shE; rw [if_pos hc, if_neg (fun k => h1 k.1)])
      have HC := hid hc
      clear hc
      go_enter Try.func14, Try.ntmps14
      go_wp2_with fail
      (with_reducible refine (regions_any _).mono ?_); rintro e w1 ⟨rfl, hb⟩
      have HB1 := hid hb
      have HS1 := hid (HS.out.next hb)
      clear hb HS
      go_wp2_with fail
      (with_reducible refine (shift_bad A ss n c dx dy _ HN.out hm HS1.out (by rw [HE.out]; decide)).mono ?_); rintro e w2 hg
      rw [HE.out] at hg
      obtain ⟨A2, c2, rfl, hr, hb2⟩ := hg.mono
      have HB2 := hid (below_next HB1.out hb2)
      have HS2 := hid (HS1.out.next hb2)
      clear hg hr hb2 HS1 HB1
      go_wp2_with fail
      (with_reducible refine (rcheck_any A ss n c _ HN.out hm HS2.out).mono ?_); rintro e w3 ⟨rfl, hb3⟩
      rw [HC.out]
      have HB3 := hid (below_next HB2.out hb3)
      clear hb3 HS2 HB2
      go_wp2_with (go_at_call 40; (first | (with_reducible refine (in_t _ _ _ _ (by assumption)).mono ?_) | (with_reducible refine (in_f _ _ _ _ (by assumption)).mono ?_)); rintro e w' ⟨rfl, rfl⟩)
      go_ret
      exact ⟨rfl, HB3.out⟩
  · have HE := hid (show shE ss dx dy = chk ss from if_neg hc)
    have hc' : (chk ss != 0) = true := by simpa using hc
    have hc'' : (chk ss == 0) = false := by simpa using hc
    have HC := hid hc
    clear hc
    go_enter Try.func14, Try.ntmps14
    go_wp2_with fail
    (with_reducible refine (regions_any _).mono ?_); rintro e w1 ⟨rfl, hb⟩
    have HB1 := hid hb
    have HS1 := hid (HS.out.next hb)
    clear hb HS
    go_wp2_with fail
    (with_reducible refine (shift_bad A ss n c dx dy _ HN.out hm HS1.out (by rw [HE.out]; exact HC.out)).mono ?_); rintro e w2 hg
    rw [HE.out] at hg
    obtain ⟨A2, c2, rfl, hr, hb2⟩ := hg.mono
    have HB2 := hid (below_next HB1.out hb2)
    have HS2 := hid (HS1.out.next hb2)
    clear hg hr hb2 HS1 HB1
    go_wp2_with fail
    (with_reducible refine (rcheck_any A ss n c _ HN.out hm HS2.out).mono ?_); rintro e w3 ⟨rfl, hb3⟩
    have HB3 := hid (below_next HB2.out hb3)
    clear hb3 HS2 HB2
    go_wp2_with fail
    go_ret
    exact ⟨rfl, HB3.out⟩

set_option maxRecDepth 100000 in
theorem lifted (os : Os) (started : os.Started) (H : Type) (enc : TypeId × Value → H) :
    ReturnsInHanded {} Try.checked os 14 .any (Rows.regionShiftCellsSpec.pre6 enc Try.prog Try.f14 Rows.regionShiftCellsRow.domain false) (Rows.regionShiftCellsSpec.post enc Try.prog Try.f14 false true false false) := by
  refine returnsInHanded_of_change (C := Try.checked) own started (by kernel_rfl) Try.func14
    (ChangeSpec.witness6 (enc := enc) (C := Try.checked) false ⟨#[], #[.slice none 0 0, .int .i64 0, .int .i64 0], []⟩ 8 (by kernel_rfl) (by kernel_rfl) (by kernel_rfl) (by kernel_rfl)) ?_
  intro W base args ds gs before hval0 hW hcnd _
  have hval : ∀ (j : Nat) t v, Try.f14.params[j]? = some t → args[j]? = some v → Value.okWide Try.prog W .any base t v := hval0
  have hW' := hW
  obtain ⟨p, q, hA0, hV, rfl, hfz, hnd⟩ := hW
  have hA : DataW.TrodAll enc Try.prog W 0 (fun _ => true) true Try.f14.params.toList args.toList ds p := hA0
  rw [Try.params14] at hA hval
  obtain ⟨v0, vs0, d0, ds0, p0, q0, hargs, rfl, rfl, h0, r0⟩ := trodAll_cons hA
  obtain ⟨v1, vs1, d1, ds1, p1, q1, rfl, rfl, rfl, h1, r1⟩ := trodAll_cons r0
  obtain ⟨v2, vs2, d2, ds2, p2, q2, rfl, rfl, rfl, h2, r2⟩ := trodAll_cons r1
  obtain ⟨rfl, rfl, rfl⟩ := trodAll_nil r2
  obtain rfl : args = #[v0, v1, v2] := by cases args; simp_all
  obtain ⟨rfl, rfl⟩ := trodVars_none hV
  have k0 := h0
  have lt0 : ∀ x ∈ p0, x.block < W.heap.size := by obtain ⟨m, hm⟩ := k0; exact DataW.trod_lt m _ _ _ hm
  obtain ⟨A0, n0, c0, ss0, rfl, hn0, hs0, hm0⟩ := open_runs Try.underlying22 Try.underlying30 (by kernel_rfl) (by kernel_rfl) (by kernel_rfl) (hval 0 22 v0 rfl rfl) h0
  obtain ⟨x1, rfl, rfl, rfl, w1⟩ := open_int Try.underlying3 (hval 1 3 v1 rfl rfl) h1
  obtain ⟨x2, rfl, rfl, rfl, w2⟩ := open_int Try.underlying3 (hval 2 3 v2 rfl rfl) h2
  clear hA0 hval0
  refine (rest A0 n0 c0 ss0 x1 x2 W hn0 hs0 hm0).mono fun e W' ⟨he, bel⟩ => ?_
  subst he
  exact ⟨_, rfl, _, _, _, [], _, [], hW', trodAll_mk1 (shut_bool Try.underlying4 _), (trodAll_cons_mk (Below.trod laidOut (by kernel_rfl) (of_decide_eq_true (by kernel_rfl)) k0 bel lt0) (trodAll_cons_mk (shut_int Try.underlying3 w1) (trodAll_cons_mk (shut_int Try.underlying3 w2) trodAll_mk0))), rfl, bel.frame _, fun h => by cases h⟩

theorem over : Rows.regionShiftCellsRow.holds Try.pinned (OpenSpec.ofChange Rows.regionShiftCellsSpec) :=
  OpenClaim.holds_of_wide 14 Try.f14 rfl rfl rfl rfl rfl rfl rfl ⟨rfl, rfl, rfl, rfl, rfl⟩ rfl rfl rfl rfl rfl (by kernel_rfl) Try.func14 (by kernel_rfl)
    (of_decide_eq_true (by kernel_rfl)) (by unfold Func.isWrapper; first | (rw [if_pos (by decide +kernel)]; kernel_rfl) | (rw [if_neg (by decide +kernel)]; exact ⟨rfl, rfl⟩))
    (fun os started H enc _ => lifted os started H enc)

/-- The statement. -/
theorem proved : Rows.RegionShiftCellsSaid := over
end Go.Proofs.Ytepnpnidbpaimaa.regionShiftCells
