/- Check of package region returns for every region what the reference does: the error of the first run that is out of range, without cells or out of order, or none; for every input. -/
import Derived.Test.YtepnpnidbpaimaaRows
import Derived.WalkKit
import Derived.ProofKit
import Derived.OpenShut
import Derived.ChangeOld
import Derived.Below
import Derived.Test.YtepnpnidbpaimaaOpen
import Derived.Test.YtepnpnidbpaimaaChk
import Derived.Test.YtepnpnidbpaimaaRChk
import Derived.Test.YtepnpnidbpaimaaOwn
namespace Go.Proofs.Ytepnpnidbpaimaa.regionCheckForm
open Go Go.ChangeShapes Go.WideShapes Go.ChangeAt Go.RowKit Go.Deep
set_option linter.unusedVariables false

set_option maxHeartbeats 1600000 in
theorem rest (A : Option Addr) (n c : Nat) (ss : List Rn) (W : World) (hn : n = ss.length) (hs : Runs W A ss) (hm : ss.length ≤ maxLen) :
    Calls Try.prog 7 #[.slice A n c] W fun e w' => e = .returned (.bool true) ∧ Below W.heap.size W w' := by
  have HS := hid hs
  have HN := hid hn
  rw [← hn] at hm
  clear hs hn
  go_enter Try.func7, Try.ntmps7
  go_wp2_with fail
  (with_reducible refine (check_any _ [⟨0, 1, 1⟩] 1 1 _ rfl (by decide) (runs1 (Var.new W (cel ⟨0, 1, 1⟩) 30 _ rfl))).mono ?_)
  rintro e w1 ⟨rfl, hb⟩
  rw [show chk [⟨0, 1, 1⟩] = 4 by decide]
  have HB := hid (below_next (below_alloc (Below.refl _ W) _) hb)
  have HS1 := hid (HS.out.next HB.out)
  clear hb HS
  go_wp2_with fail
  (with_reducible refine (check_any _ ss _ _ _ HN.out hm HS1.out).mono ?_); rintro e w2 ⟨rfl, hb⟩
  have HB2 := hid (below_next HB.out hb)
  have HS2 := hid (HS1.out.next hb)
  clear hb HS1 HB
  go_wp2_with fail
  (with_reducible refine (rcheck_any _ ss _ _ _ HN.out hm HS2.out).mono ?_); rintro e w3 ⟨rfl, hb⟩
  have HB3 := hid (below_next HB2.out hb)
  clear hb HS2 HB2
  go_wp2_with fail
  go_ret
  exact ⟨rfl, HB3.out⟩

set_option maxRecDepth 100000 in
theorem lifted (os : Os) (started : os.Started) (H : Type) (enc : TypeId × Value → H) :
    ReturnsInHanded {} Try.checked os 7 .any (Rows.regionCheckFormSpec.pre6 enc Try.prog Try.f7 Rows.regionCheckFormRow.domain false) (Rows.regionCheckFormSpec.post enc Try.prog Try.f7 false true false false) := by
  refine returnsInHanded_of_change (C := Try.checked) own started (by kernel_rfl) Try.func7
    (ChangeSpec.witness6 (enc := enc) (C := Try.checked) false ⟨#[], #[.slice none 0 0], []⟩ 8 (by kernel_rfl) (by kernel_rfl) (by kernel_rfl) (by kernel_rfl)) ?_
  intro W base args ds gs before hval0 hW hcnd _
  have hval : ∀ (j : Nat) t v, Try.f7.params[j]? = some t → args[j]? = some v → Value.okWide Try.prog W .any base t v := hval0
  have hW' := hW
  obtain ⟨p, q, hA0, hV, rfl, hfz, hnd⟩ := hW
  have hA : DataW.TrodAll enc Try.prog W 0 (fun _ => true) true Try.f7.params.toList args.toList ds p := hA0
  rw [Try.params7] at hA hval
  obtain ⟨v0, vs0, d0, ds0, p0, q0, hargs, rfl, rfl, h0, r0⟩ := trodAll_cons hA
  obtain ⟨rfl, rfl, rfl⟩ := trodAll_nil r0
  obtain rfl : args = #[v0] := by cases args; simp_all
  obtain ⟨rfl, rfl⟩ := trodVars_none hV
  have k0 := h0
  have lt0 : ∀ x ∈ p0, x.block < W.heap.size := by obtain ⟨m, hm⟩ := k0; exact DataW.trod_lt m _ _ _ hm
  obtain ⟨A0, n0, c0, ss0, rfl, hn0, hs0, hm0⟩ := open_runs Try.underlying22 Try.underlying30 (by kernel_rfl) (by kernel_rfl) (by kernel_rfl) (hval 0 22 v0 rfl rfl) h0
  clear hA0 hval0
  refine (rest A0 n0 c0 ss0 W hn0 hs0 hm0).mono fun e W' ⟨he, bel⟩ => ?_
  subst he
  exact ⟨_, rfl, _, _, _, [], _, [], hW', trodAll_mk1 (shut_bool Try.underlying4 _), (trodAll_cons_mk (Below.trod laidOut (by kernel_rfl) (of_decide_eq_true (by kernel_rfl)) k0 bel lt0) trodAll_mk0), rfl, bel.frame _, fun h => by cases h⟩

theorem over : Rows.regionCheckFormRow.holds Try.pinned (OpenSpec.ofChange Rows.regionCheckFormSpec) :=
  OpenClaim.holds_of_wide 7 Try.f7 rfl rfl rfl rfl rfl rfl rfl ⟨rfl, rfl, rfl, rfl, rfl⟩ rfl rfl rfl rfl rfl (by kernel_rfl) Try.func7 (by kernel_rfl)
    (of_decide_eq_true (by kernel_rfl)) (by unfold Func.isWrapper; first | (rw [if_pos (by decide +kernel)]; kernel_rfl) | (rw [if_neg (by decide +kernel)]; exact ⟨rfl, rfl⟩))
    (fun os started H enc _ => lifted os started H enc)

/-- The statement. -/
theorem proved : Rows.RegionCheckFormSaid := over
end Go.Proofs.Ytepnpnidbpaimaa.regionCheckForm
