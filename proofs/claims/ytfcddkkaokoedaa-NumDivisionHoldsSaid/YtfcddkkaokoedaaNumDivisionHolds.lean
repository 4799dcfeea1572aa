/- The statement NumDivisionHolds returns true for all integers a and b, and changes no argument; there is no further condition. -/
import Derived.Test.YtfcddkkaokoedaaRows
import Derived.WalkKit
import Derived.ProofKit
import Derived.OpenShut
import Derived.ShutString
import Derived.Test.YtfcddkkaokoedaaCut
namespace Go.Proofs.Ytfcddkkaokoedaa.numDivisionHolds
open Go Go.ChangeShapes Go.WideShapes Go.ChangeAt Go.RowKit
open Go.ChangeMaps (open_string shut_string)
set_option linter.unusedVariables false      -- a walk need not use every 'w<i>' (that an integer argument fits its kind)

theorem own : ownKnob Try.prog.godebug = none := by kernel_rfl

def FloorGives (a b : Int) (w : World) (e : Ending) (w' : World) : Prop := ∃ q r : Int, q * b + r = a ∧ 0 ≤ r ∧ r < b ∧ e = .returned (.tuple #[.int .i64 q, .int .i64 r, .int .i64 0]) ∧ Grown w w'

theorem floor_gives (a b : Int) (w : World) (h : Ins [a, b]) (hb : 1 ≤ b) :
    Calls Try.prog 14 #[.int .i64 a, .int .i64 b] w (FloorGives a b w) :=
  (floor_ok a b w h hb).mono fun e w' ⟨he, hg⟩ => ⟨a / b, a % b, by
    have := Int.mul_ediv_add_emod a b
    rw [Int.mul_comm] at this; exact this, Int.emod_nonneg _ (by omega), Int.emod_lt_of_pos _ (by omega), he, hg⟩

def RoundGives (a b : Int) (w : World) (e : Ending) (w' : World) : Prop := ∃ n : Int, 2 * (n * b - a) ≤ b ∧ -b < 2 * (n * b - a) ∧ e = .returned (.tuple #[.int .i64 n, .int .i64 0]) ∧ Grown w w'

theorem round_gives (a b : Int) (w : World) (h : Ins [a, b]) (hb : 1 ≤ b) :
    Calls Try.prog 16 #[.int .i64 a, .int .i64 b] w (RoundGives a b w) :=
  (round_ok a b w h hb).mono fun e w' ⟨he, hg⟩ => by
    have e1 := Int.mul_ediv_add_emod (2 * a + b) (2 * b)
    have r0 := Int.emod_nonneg (2 * a + b) (show 2 * b ≠ 0 by omega)
    have r1 := Int.emod_lt_of_pos (2 * a + b) (show 0 < 2 * b by omega)
    have e2 : 2 * b * ((2 * a + b) / (2 * b)) = 2 * ((2 * a + b) / (2 * b) * b) := by rw [Int.mul_assoc, Int.mul_comm b]
    exact ⟨(2 * a + b) / (2 * b), by omega, by omega, he, hg⟩

theorem first_any (w : World) : Calls Try.prog 14 #[.int .i64 (-7), .int .i64 2] w fun e w' => e = .returned (.tuple #[.int .i64 (-4), .int .i64 1, .int .i64 0]) ∧ Grown w w' :=
  floor_ok (-7) 2 w (ins2.mpr (by omega)) (by omega)

theorem walk (a0 : Int) (a1 : Int) (w0 : (Lit.int .i64 a0).wf = true) (w1 : (Lit.int .i64 a1).wf = true) (w : World) :
    Calls Try.prog 3 #[.int .i64 a0, .int .i64 a1] w fun e w' => e = .returned (.bool true) ∧ Grown w w' := by
  go_enter Try.func3, Try.ntmps3
  go_wp2_with (go_at_call 14; (with_reducible refine (first_any _).mono ?_); rintro e w1 ⟨rfl, hg1⟩)
  go_wp2_with fail
  (with_reducible refine (cut_in _ _ _ _ (by omega) (by omega) (by omega) (by omega)).mono ?_); rintro e w2 ⟨a, ha1, ha2, rfl, rfl⟩
  go_wp2_with fail
  (with_reducible refine (cut_in _ _ _ _ (by omega) (by omega) (by omega) (by omega)).mono ?_); rintro e w2 ⟨b, hb1, hb2, rfl, rfl⟩
  go_wp2_with fail
  (with_reducible refine (floor_gives _ _ _ (ins2.mpr (by omega)) hb1).mono ?_); rintro e w4 ⟨q, r, hq, hr1, hr2, rfl, hg2⟩
  have HQ := hid hq; clear hq
  go_wp2_with fail
  (with_reducible refine (round_gives _ _ _ (ins2.mpr (by omega)) hb1).mono ?_); rintro e w5 ⟨n, hn1, hn2, rfl, hg3⟩
  have k1 : (q * b + r == a) = true := by have := HQ.out; simp [this]
  have k2 : -2200000000000 ≤ q * b := by have := HQ.out; omega
  have k3 : q * b ≤ 1099511627776 := by have := HQ.out; omega
  have k4 : -5000000000000 ≤ n * b := by omega
  have k5 : n * b ≤ 5000000000000 := by omega
  go_wp2
  go_ret
  exact ⟨rfl, grown_trans hg1 (grown_trans hg2 hg3)⟩

set_option maxRecDepth 100000 in
theorem lifted (os : Os) (started : os.Started) (H : Type) (enc : TypeId × Value → H) :
    ReturnsInHanded {} Try.checked os 3 .any (Rows.numDivisionHoldsSpec.pre6 enc Try.prog Try.f3 Rows.numDivisionHoldsRow.domain false) (Rows.numDivisionHoldsSpec.post enc Try.prog Try.f3 false true false false) := by
  refine returnsInHanded_of_change (C := Try.checked) own started (by kernel_rfl) Try.func3
    (ChangeSpec.witness6 (enc := enc) (C := Try.checked) false ⟨#[], #[.int .i64 0, .int .i64 0], []⟩ 8 (by kernel_rfl) (by kernel_rfl) (by kernel_rfl) (by kernel_rfl)) ?_
  intro W base args ds gs before hval0 hW hcnd _
  have hval : ∀ (j : Nat) t v, Try.f3.params[j]? = some t → args[j]? = some v → Value.okWide Try.prog W .any base t v := hval0
  have hW' := hW
  obtain ⟨p, q, hA0, hV, rfl, hfz, hnd⟩ := hW
  have hA : DataW.TrodAll enc Try.prog W 0 (fun _ => true) true Try.f3.params.toList args.toList ds p := hA0
  rw [Try.params3] at hA hval
  obtain ⟨v0, vs0, d0, ds0, p0, q0, hargs, rfl, rfl, h0, r0⟩ := trodAll_cons hA
  obtain ⟨v1, vs1, d1, ds1, p1, q1, rfl, rfl, rfl, h1, r1⟩ := trodAll_cons r0
  obtain ⟨rfl, rfl, rfl⟩ := trodAll_nil r1
  obtain rfl : args = #[v0, v1] := by cases args; simp_all
  obtain ⟨rfl, rfl⟩ := trodVars_none hV
  obtain ⟨a0, rfl, rfl, rfl, w0⟩ := open_int Try.underlying3 (hval 0 3 v0 rfl rfl) h0
  obtain ⟨a1, rfl, rfl, rfl, w1⟩ := open_int Try.underlying3 (hval 1 3 v1 rfl rfl) h1
  clear hA0 hval0
  simp only [List.append_nil] at hW'
  refine (walk a0 a1 w0 w1 W).mono fun e W' ⟨he, hg⟩ => ?_
  subst he
  exact ⟨_, rfl, post_of_same (pa := []) (pv := []) hW' (fun _ _ _ => (trodAll_cons_mk (shut_bool Try.underlying4 _) trodAll_mk0)) (fun sp _ => (trodAll_cons_mk (shut_int Try.underlying3 w0) (trodAll_cons_mk (shut_int Try.underlying3 w1) trodAll_mk0))) (fun _ _ => rfl) rfl
    (hg.frame _) hg.2.1 (ok_one (by kernel_rfl) rfl (okWide_bool_mk Try.underlying4 _))⟩

theorem over : Rows.numDivisionHoldsRow.holds Try.pinned (OpenSpec.ofChange Rows.numDivisionHoldsSpec) :=
  OpenClaim.holds_of_wide 3 Try.f3 rfl rfl rfl rfl rfl rfl rfl ⟨rfl, rfl, rfl, rfl, rfl⟩ rfl rfl rfl rfl rfl (by kernel_rfl) Try.func3 (by kernel_rfl)
    (of_decide_eq_true (by kernel_rfl)) (by unfold Func.isWrapper; first | (rw [if_pos (by decide +kernel)]; kernel_rfl) | (rw [if_neg (by decide +kernel)]; exact ⟨rfl, rfl⟩))
    (fun os started H enc _ => lifted os started H enc)

theorem proved : Rows.NumDivisionHoldsSaid :=
  over
end Go.Proofs.Ytfcddkkaokoedaa.numDivisionHolds
