/- The statement NumGcdDivides returns true for all integers a and b, and changes no argument; there is no further condition. -/
import Derived.Test.YtfcddkkaokoedaaRows
import Derived.WalkKit
import Derived.ProofKit
import Derived.OpenShut
import Derived.ShutString
import Derived.Test.YtfcddkkaokoedaaCut
import Derived.Test.YtfcddkkaokoedaaGcd
import Derived.Deep.RegionWith
namespace Go.Proofs.Ytfcddkkaokoedaa.numGcdDivides
open Go Go.ChangeShapes Go.WideShapes Go.ChangeAt Go.RowKit
open Go.ChangeMaps (open_string shut_string)
set_option linter.unusedVariables false      -- a walk need not use every 'w<i>' (that an integer argument fits its kind)

theorem own : ownKnob Try.prog.godebug = none := by kernel_rfl

theorem first_any (w : World) : Calls Try.prog 19 #[.int .i64 (-12), .int .i64 18] w fun e w' => e = .returned (.tuple #[.int .i64 6, .int .i64 0]) ∧ Grown w w' :=
  gcd_any (-12) 18 w (ins2.mpr (by omega))

theorem named (a b : Int) (g : Nat) (hg : Int.gcd a b = g) (w : World) (h : Ins [a, b]) :
    Calls Try.prog 19 #[.int .i64 a, .int .i64 b] w fun e w' => e = .returned (.tuple #[.int .i64 g, .int .i64 0]) ∧ Grown w w' := by
  rw [← hg]; exact gcd_any a b w h

theorem both_zero (w : World) : Calls Try.prog 19 #[.int .i64 0, .int .i64 0] w fun e w' => e = .returned (.tuple #[.int .i64 0, .int .i64 0]) ∧ Grown w w' :=
  gcd_any 0 0 w (ins2.mpr (by omega))

theorem parts (a b : Int) (h : ¬ (a = 0 ∧ b = 0)) (g : Nat) (hg : Int.gcd a b = g) :
    1 ≤ g ∧ a.tmod g = 0 ∧ b.tmod g = 0 ∧ (a.tdiv g).natAbs ≤ a.natAbs ∧ (b.tdiv g).natAbs ≤ b.natAbs ∧ Int.gcd (a.tdiv g) (b.tdiv g) = 1 := by
  have g1 : 1 ≤ g := by
    have : Int.gcd a b ≠ 0 := fun e => h (Int.gcd_eq_zero_iff.mp e)
    omega
  obtain ⟨x, hx⟩ := Int.gcd_dvd_left a b
  obtain ⟨y, hy⟩ := Int.gcd_dvd_right a b
  rw [hg] at hx hy
  have e1 : a.tdiv g = x := by conv => lhs; rw [hx]
                               exact Int.mul_tdiv_cancel_left _ (by omega)
  have e2 : b.tdiv g = y := by conv => lhs; rw [hy]
                               exact Int.mul_tdiv_cancel_left _ (by omega)
  refine ⟨g1, ?_, ?_, ?_, ?_, ?_⟩
  · rw [hx, Int.mul_tmod_right]
  · rw [hy, Int.mul_tmod_right]
  · rw [Int.natAbs_tdiv]; exact Nat.div_le_self _ _
  · rw [Int.natAbs_tdiv]; exact Nat.div_le_self _ _
  · rw [e1, e2]
    rw [hx, hy, Int.gcd_mul_left] at hg
    have : (g : Int).natAbs = g := by omega
    rw [this] at hg
    exact Nat.eq_of_mul_eq_mul_left g1 (by omega)

set_option maxHeartbeats 4000000 in
theorem walk (a0 : Int) (a1 : Int) (w0 : (Lit.int .i64 a0).wf = true) (w1 : (Lit.int .i64 a1).wf = true) (w : World) :
    Calls Try.prog 6 #[.int .i64 a0, .int .i64 a1] w fun e w' => e = .returned (.bool true) ∧ Grown w w' := by
  go_enter Try.func6, Try.ntmps6
  go_wp2_with fail
  (with_reducible refine (first_any _).mono ?_); rintro e w1 ⟨rfl, hg1⟩
  go_wp2_with fail
  (with_reducible refine (cut_in _ _ _ _ (by omega) (by omega) (by omega) (by omega)).mono ?_); rintro e w2 ⟨a, ha1, ha2, rfl, rfl⟩
  go_wp2_with fail
  (with_reducible refine (cut_in _ _ _ _ (by omega) (by omega) (by omega) (by omega)).mono ?_); rintro e w2 ⟨b, hb1, hb2, rfl, rfl⟩
  by_cases h0 : a = 0 ∧ b = 0
  · obtain ⟨rfl, rfl⟩ := h0
    go_wp2_with fail
    (with_reducible refine (both_zero _).mono ?_); rintro e w2 ⟨rfl, hg2⟩
    go_wp2
    go_ret
    exact ⟨rfl, grown_trans hg1 hg2⟩
  · obtain ⟨g, hg⟩ : ∃ g, Int.gcd a b = g := ⟨_, rfl⟩
    obtain ⟨g1, m1, m2, d1, d2, hone⟩ := parts a b h0 g hg
    have HG := hid hg
    have H1 := hid hone
    have k1 : (a.tmod g == 0) = true := by rw [m1]; rfl
    have k2 : (b.tmod g == 0) = true := by rw [m2]; rfl
    have k3 : (a.tmod g != 0) = false := by rw [m1]; rfl
    have k4 : (b.tmod g != 0) = false := by rw [m2]; rfl
    have k5 : decide ((g : Int) < 1) = false := decide_eq_false (by omega)
    have z : (a == 0) = false ∨ ((a == 0) = true ∧ (b == 0) = false) := by
      by_cases e : a = 0
      · simp [e, show b ≠ 0 from fun e' => h0 ⟨e, e'⟩]
      · simp [e]
    have c : ∀ w, Calls Try.prog 19 #[.int .i64 (a.tdiv g), .int .i64 (b.tdiv g)] w fun e w' => e = .returned (.tuple #[.int .i64 1, .int .i64 0]) ∧ Grown w w' :=
      fun w => named _ _ 1 hone w (ins2.mpr (by omega))
    have q1 : IntKind.i64.wrap (a.tdiv g) = a.tdiv g := IntWalk.i64_in _ (by omega)
    have q2 : IntKind.i64.wrap (b.tdiv g) = b.tdiv g := IntWalk.i64_in _ (by omega)
    clear hg hone m1 m2 c h0
    rcases z with z | ⟨z, z'⟩
    all_goals
      go_wp2_with fail
      (with_reducible refine (named a b g HG.out _ (ins2.mpr (by omega))).mono ?_); rintro e w2 ⟨rfl, hg2⟩
      go_wp2_with fail
      go_region_with (go_at_call 19; (with_reducible refine (named _ _ 1 H1.out _ (ins2.mpr (by omega))).mono ?_); rintro e w3 ⟨rfl, hg3⟩)
      all_goals
        clear q1 q2 HG H1 d1 d2 k1 k2 k3 k4 k5
        go_wp2
        go_ret
        exact ⟨rfl, grown_trans hg1 (grown_trans hg2.drew hg3)⟩

set_option maxRecDepth 100000 in
theorem lifted (os : Os) (started : os.Started) (H : Type) (enc : TypeId × Value → H) :
    ReturnsInHanded {} Try.checked os 6 .any (Rows.numGcdDividesSpec.pre6 enc Try.prog Try.f6 Rows.numGcdDividesRow.domain false) (Rows.numGcdDividesSpec.post enc Try.prog Try.f6 false true false false) := by
  refine returnsInHanded_of_change (C := Try.checked) own started (by kernel_rfl) Try.func6
    (ChangeSpec.witness6 (enc := enc) (C := Try.checked) false ⟨#[], #[.int .i64 0, .int .i64 0], []⟩ 8 (by kernel_rfl) (by kernel_rfl) (by kernel_rfl) (by kernel_rfl)) ?_
  intro W base args ds gs before hval0 hW hcnd _
  have hval : ∀ (j : Nat) t v, Try.f6.params[j]? = some t → args[j]? = some v → Value.okWide Try.prog W .any base t v := hval0
  have hW' := hW
  obtain ⟨p, q, hA0, hV, rfl, hfz, hnd⟩ := hW
  have hA : DataW.TrodAll enc Try.prog W 0 (fun _ => true) true Try.f6.params.toList args.toList ds p := hA0
  rw [Try.params6] at hA hval
  obtain ⟨v0, vs0, d0, ds0, p0, q0, hargs, rfl, rfl, h0, r0⟩ := trodAll_cons hA
  obtain ⟨v1, vs1, d1, ds1, p1, q1, rfl, rfl, rfl, h1, r1⟩ := trodAll_cons r0
  obtain ⟨rfl, rfl, rfl⟩ := trodAll_nil r1
  obtain rfl : args = #[v0, v1] := by cases args; simp_all
  obtain ⟨rfl, rfl⟩ := trodVars_none hV
  obtain ⟨a0, rfl, rfl, rfl, w0⟩ := open_int Try.underlying3 (hval 0 3 v0 rfl rfl) h0
  obtain ⟨a1, rfl, rfl, rfl, w1⟩ := open_int Try.underlying3 (hval 1 3 v1 rfl rfl) h1
  clear hA0 hval0
  simp only [List.append_nil] at hW'
  refine (walk a0 a1 w0 w1 W).mono fun e W' ⟨he, hg⟩ => ?_
  subst he
  exact ⟨_, rfl, post_of_same (pa := []) (pv := []) hW' (fun _ _ _ => (trodAll_cons_mk (shut_bool Try.underlying4 _) trodAll_mk0)) (fun sp _ => (trodAll_cons_mk (shut_int Try.underlying3 w0) (trodAll_cons_mk (shut_int Try.underlying3 w1) trodAll_mk0))) (fun _ _ => rfl) rfl
    (hg.frame _) hg.2.1 (ok_one (by kernel_rfl) rfl (okWide_bool_mk Try.underlying4 _))⟩

theorem over : Rows.numGcdDividesRow.holds Try.pinned (OpenSpec.ofChange Rows.numGcdDividesSpec) :=
  OpenClaim.holds_of_wide 6 Try.f6 rfl rfl rfl rfl rfl rfl rfl ⟨rfl, rfl, rfl, rfl, rfl⟩ rfl rfl rfl rfl rfl (by kernel_rfl) Try.func6 (by kernel_rfl)
    (of_decide_eq_true (by kernel_rfl)) (by unfold Func.isWrapper; first | (rw [if_pos (by decide +kernel)]; kernel_rfl) | (rw [if_neg (by decide +kernel)]; exact ⟨rfl, rfl⟩))
    (fun os started H enc _ => lifted os started H enc)

theorem proved : Rows.NumGcdDividesSaid :=
  over
end Go.Proofs.Ytfcddkkaokoedaa.numGcdDivides
