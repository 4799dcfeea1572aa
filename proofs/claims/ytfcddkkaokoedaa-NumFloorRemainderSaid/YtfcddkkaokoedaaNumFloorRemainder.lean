/- The statement NumFloorRemainder returns true for all integers a and b, and changes no argument; there is no further condition. -/
import Derived.Test.YtfcddkkaokoedaaRows
import Derived.WalkKit
import Derived.ProofKit
import Derived.OpenShut
import Derived.ShutString
import Derived.Test.YtfcddkkaokoedaaRef
namespace Go.Proofs.Ytfcddkkaokoedaa.numFloorRemainder
open Go Go.ChangeShapes Go.WideShapes Go.ChangeAt Go.RowKit
open Go.ChangeMaps (open_string shut_string)
set_option linter.unusedVariables false      -- a walk need not use every 'w<i>' (that an integer argument fits its kind)

theorem own : ownKnob Try.prog.godebug = none := by kernel_rfl

theorem first_any (w : World) : Calls Try.prog 14 #[.int .i64 (-7), .int .i64 2] w fun e w' => e = .returned (.tuple #[.int .i64 (-4), .int .i64 1, .int .i64 0]) ∧ Grown w w' :=
  floor_ok (-7) 2 w (ins2.mpr (by omega)) (by omega)

theorem cases_any (a b : Int) : (∃ r : Int, (r == 0) = false ∧ ((¬ Ins [a, b] ∧ r = 3) ∨ (Ins [a, b] ∧ b < 1 ∧ r = 1))) ∨ (Ins [a, b] ∧ 1 ≤ b) := by
  by_cases h : Ins [a, b]
  · by_cases hb : b < 1
    · exact .inl ⟨1, rfl, .inr ⟨h, hb, rfl⟩⟩
    · exact .inr ⟨h, by omega⟩
  · exact .inl ⟨3, rfl, .inl ⟨h, rfl⟩⟩

theorem walk (a0 : Int) (a1 : Int) (w0 : (Lit.int .i64 a0).wf = true) (w1 : (Lit.int .i64 a1).wf = true) (w : World) :
    Calls Try.prog 8 #[.int .i64 a0, .int .i64 a1] w fun e w' => e = .returned (.bool true) ∧ Grown w w' := by
  rcases cases_any a0 a1 with ⟨r, hr, h⟩ | ⟨h, hb⟩
  · have H := hid h
    clear h
    go_enter Try.func8, Try.ntmps8
    go_wp2_with (go_at_call 14; (with_reducible refine (first_any _).mono ?_); rintro e w1 ⟨rfl, hg1⟩)
    go_wp2_with (go_at_call 14; (with_reducible refine (floor_no r a0 a1 _ H.out).mono ?_); rintro e w2 ⟨rfl, hg2⟩)
    go_wp2_with (go_at_call 22; (with_reducible refine (rfloor_no r a0 a1 _ H.out).mono ?_); rintro e w3 ⟨rfl, hg3⟩)
    go_wp2
    go_ret
    exact ⟨rfl, grown_trans hg1 (grown_trans hg2 hg3)⟩
  · have H := hid h
    clear h
    go_enter Try.func8, Try.ntmps8
    go_wp2_with (go_at_call 14; (with_reducible refine (first_any _).mono ?_); rintro e w1 ⟨rfl, hg1⟩)
    go_wp2_with (go_at_call 14; (with_reducible refine (floor_ok a0 a1 _ H.out hb).mono ?_); rintro e w2 ⟨rfl, hg2⟩)
    go_wp2_with (go_at_call 22; (with_reducible refine (rfloor_ok a0 a1 _ H.out hb).mono ?_); rintro e w3 ⟨rfl, hg3⟩)
    go_wp2
    go_ret
    exact ⟨rfl, grown_trans hg1 (grown_trans hg2 hg3)⟩

set_option maxRecDepth 100000 in
theorem lifted (os : Os) (started : os.Started) (H : Type) (enc : TypeId × Value → H) :
    ReturnsInHanded {} Try.checked os 8 .any (Rows.numFloorRemainderSpec.pre6 enc Try.prog Try.f8 Rows.numFloorRemainderRow.domain false) (Rows.numFloorRemainderSpec.post enc Try.prog Try.f8 false true false false) := by
  refine returnsInHanded_of_change (C := Try.checked) own started (by kernel_rfl) Try.func8
    (ChangeSpec.witness6 (enc := enc) (C := Try.checked) false ⟨#[], #[.int .i64 0, .int .i64 0], []⟩ 8 (by kernel_rfl) (by kernel_rfl) (by kernel_rfl) (by kernel_rfl)) ?_
  intro W base args ds gs before hval0 hW hcnd _
  have hval : ∀ (j : Nat) t v, Try.f8.params[j]? = some t → args[j]? = some v → Value.okWide Try.prog W .any base t v := hval0
  have hW' := hW
  obtain ⟨p, q, hA0, hV, rfl, hfz, hnd⟩ := hW
  have hA : DataW.TrodAll enc Try.prog W 0 (fun _ => true) true Try.f8.params.toList args.toList ds p := hA0
  rw [Try.params8] at hA hval
  obtain ⟨v0, vs0, d0, ds0, p0, q0, hargs, rfl, rfl, h0, r0⟩ := trodAll_cons hA
  obtain ⟨v1, vs1, d1, ds1, p1, q1, rfl, rfl, rfl, h1, r1⟩ := trodAll_cons r0
  obtain ⟨rfl, rfl, rfl⟩ := trodAll_nil r1
  obtain rfl : args = #[v0, v1] := by cases args; simp_all
  obtain ⟨rfl, rfl⟩ := trodVars_none hV
  obtain ⟨a0, rfl, rfl, rfl, w0⟩ := open_int Try.underlying3 (hval 0 3 v0 rfl rfl) h0
  obtain ⟨a1, rfl, rfl, rfl, w1⟩ := open_int Try.underlying3 (hval 1 3 v1 rfl rfl) h1
  clear hA0 hval0
  simp only [List.append_nil] at hW'
  refine (walk a0 a1 w0 w1 W).mono fun e W' ⟨he, hg⟩ => ?_
  subst he
  exact ⟨_, rfl, post_of_same (pa := []) (pv := []) hW' (fun _ _ _ => (trodAll_cons_mk (shut_bool Try.underlying4 _) trodAll_mk0)) (fun sp _ => (trodAll_cons_mk (shut_int Try.underlying3 w0) (trodAll_cons_mk (shut_int Try.underlying3 w1) trodAll_mk0))) (fun _ _ => rfl) rfl
    (hg.frame _) hg.2.1 (ok_one (by kernel_rfl) rfl (okWide_bool_mk Try.underlying4 _))⟩

theorem over : Rows.numFloorRemainderRow.holds Try.pinned (OpenSpec.ofChange Rows.numFloorRemainderSpec) :=
  OpenClaim.holds_of_wide 8 Try.f8 rfl rfl rfl rfl rfl rfl rfl ⟨rfl, rfl, rfl, rfl, rfl⟩ rfl rfl rfl rfl rfl (by kernel_rfl) Try.func8 (by kernel_rfl)
    (of_decide_eq_true (by kernel_rfl)) (by unfold Func.isWrapper; first | (rw [if_pos (by decide +kernel)]; kernel_rfl) | (rw [if_neg (by decide +kernel)]; exact ⟨rfl, rfl⟩))
    (fun os started H enc _ => lifted os started H enc)

theorem proved : Rows.NumFloorRemainderSaid :=
  over
end Go.Proofs.Ytfcddkkaokoedaa.numFloorRemainder
