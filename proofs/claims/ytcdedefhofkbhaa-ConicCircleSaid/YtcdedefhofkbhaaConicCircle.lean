/- ConicCircle: a quarter of a circle stays within 2 of the circle. -/
import Derived.Test.YtcdedefhofkbhaaRows
import Derived.WalkKit
import Derived.ProofKit
import Derived.OpenShut
import Derived.ChangeOld
import Derived.Below
import Derived.Test.YtcdedefhofkbhaaOpen
import Derived.Test.YtcdedefhofkbhaaArcs
namespace Go.Proofs.Ytcdedefhofkbhaa.conicCircle
open Go Go.ChangeShapes Go.WideShapes Go.ChangeAt Go.RowKit Go.Deep
set_option linter.unusedVariables false

set_option maxHeartbeats 1600000 in
set_option maxRecDepth 100000 in
theorem rest (x0 : Int) (W : World) : Calls Try.prog 4 #[.int .i64 x0] W fun e w' => e = .returned (.bool true) ∧ Below W.heap.size W w' := by
  go_enter Try.func4, Try.ntmps4
  go_wp2_with fail
  (with_reducible refine (arcs_any W).mono ?_); rintro e w1 ⟨rfl, hb⟩
  have HB1 := hid hb
  clear hb
  go_wp2_with fail
  (with_reducible refine (cut_in x0 4 30000 _ (by omega) (by omega) (by omega) (by omega)).mono ?_); rintro e w2 ⟨r, r1, r2, rfl, rfl⟩
  have HE := hid (arc_good ⟨r1, r2⟩)
  have HP := hid (arc_ps ⟨r1, r2⟩)
  have HC := fun (n k : Nat) (h1 : 1 ≤ n) (h2 : n ≤ 1024) (hk : k ≤ n) => hid (circle ⟨r1, r2⟩ h1 h2 hk)
  have HA := fun w => hid (arc_any r w)
  rw [HE.out, HP.out] at HA
  clear HE HP
  go_wp2_with fail
  (with_reducible refine (HA _).out.mono ?_); rintro e w3 ⟨v, rfl, ho, hb⟩
  have hd := dv_bd (cuOf ⟨r, 0⟩ (arcS r))
  rw [pts_length] at ho
  obtain ⟨g, c, rfl, -, hg, hr⟩ := own_row ho (by omega)
  have HB3 := hid (below_next HB1.out hb)
  have HL := hid hg
  have HR := hid hr
  have HI := fun (k : Nat) (h : k < (cuOf ⟨r, 0⟩ (arcS r)).dv) => hid (pts_at (c := cuOf ⟨r, 0⟩ (arcS r)) h)
  generalize hD : (cuOf ⟨r, 0⟩ (arcS r)).dv = D at hd HI ⊢
  clear hD ho hb hg hr HA HB1
  obtain ⟨hd1, hd2⟩ := hd
  go_wp2_with fail
  go_loopw [21] (fun s21 wr => ∃ k : Nat, k ≤ D ∧ s21 = .int .i64 k ∧ g < wr.heap.size ∧ Hid (Row2 wr g (cuOf ⟨r, 0⟩ (arcS r)).pts) ∧ Hid (Below W.heap.size W wr)) (fun s21 _ => D - (intOf s21).toNat)
  case atStart => exact ⟨0, Nat.zero_le _, rfl, HL.out, HR, HB3⟩
  case round =>
    obtain ⟨k, hk, rfl, hg, HR, HB⟩ := hrel
    by_cases hlt : k < D
    · obtain ⟨c0, c1⟩ := HR.out k _ (HI k hlt).out
      obtain ⟨e1, e2⟩ := (HC D (k + 1) hd1 (by omega) hlt).out
      have hin := at_in (c := cuOf ⟨r, 0⟩ (arcS r)) (k := ((k + 1 : Nat) : Int)) (n := D) ⟨⟨by simp only [cuOf]; omega, by simp only [cuOf]; omega⟩, ⟨by simp only [cuOf]; omega, by simp only [cuOf]; omega⟩, ⟨by simp only [cuOf]; omega, by simp only [cuOf]; omega⟩, ⟨by show (16 : Int) ≤ 181; decide, by show (181 : Int) ≤ 4096; decide⟩⟩ (inK ⟨by show (16 : Int) ≤ 181; decide, by show (181 : Int) ≤ 4096; decide⟩ hd1 (by omega) hlt)
      obtain ⟨hx, hy⟩ := hin
      clear HI HC
      generalize ((cuOf ⟨r, 0⟩ (arcS r)).at ((k + 1 : Nat) : Int) D).x = X at c0 e1 e2 hx
      generalize ((cuOf ⟨r, 0⟩ (arcS r)).at ((k + 1 : Nat) : Int) D).y = Y at c1 e1 e2 hy
      have m1 := mulb (x := X) (y := X) (X := 32767) (Y := 32767) (by omega) (by omega)
      have m2 := mulb (x := Y) (y := Y) (X := 32767) (Y := 32767) (by omega) (by omega)
      have m3 := mulb (x := r - 2) (y := r - 2) (X := 30000) (Y := 30000) (by omega) (by omega)
      have m4 := mulb (x := r + 2) (y := r + 2) (X := 30002) (Y := 30002) (by omega) (by omega)
      have t1 : decide (X * X + Y * Y < (r - 2) * (r - 2)) = false := by simp; omega
      have t2 : decide ((r + 2) * (r + 2) < X * X + Y * Y) = false := by simp; omega
      clear e1 e2
      go_wp2_with fail
      go_roundw
      case rel =>
        have hbn := below_alloc (Below.refl _ wr) (.cells #[.int .i64 X, .int .i64 Y] 23)
        exact ⟨k + 1, by omega, by go_num, Nat.lt_of_lt_of_le hg hbn.size, hid (HR.out.next hg hbn), hid (below_next HB.out hbn)⟩
      case measure => simp [intOf]; omega
    · go_wp2_with fail
      go_ret
      exact ⟨rfl, HB.out⟩

set_option maxRecDepth 100000 in
theorem lifted (os : Os) (started : os.Started) (H : Type) (enc : TypeId × Value → H) :
    ReturnsInHanded {} Try.checked os 4 .any (Rows.conicCircleSpec.pre6 enc Try.prog Try.f4 Rows.conicCircleRow.domain false) (Rows.conicCircleSpec.post enc Try.prog Try.f4 false true false false) := by
  refine returnsInHanded_of_change (C := Try.checked) own started (by kernel_rfl) Try.func4
    (ChangeSpec.witness6 (enc := enc) (C := Try.checked) false ⟨#[], #[.int .i64 0], []⟩ 8 (by kernel_rfl) (by kernel_rfl) (by kernel_rfl) (by kernel_rfl)) ?_
  intro W base args ds gs before hval0 hW hcnd _
  have hval : ∀ (j : Nat) t v, Try.f4.params[j]? = some t → args[j]? = some v → Value.okWide Try.prog W .any base t v := hval0
  have hW' := hW
  obtain ⟨p, q, hA0, hV, rfl, hfz, hnd⟩ := hW
  have hA : DataW.TrodAll enc Try.prog W 0 (fun _ => true) true Try.f4.params.toList args.toList ds p := hA0
  rw [Try.params4] at hA hval
  obtain ⟨v0, vs0, d0, ds0, p0, q0, hargs, rfl, rfl, h0, r0⟩ := trodAll_cons hA
  obtain ⟨rfl, rfl, rfl⟩ := trodAll_nil r0
  obtain rfl : args = #[v0] := by cases args; simp_all
  obtain ⟨rfl, rfl⟩ := trodVars_none hV
  obtain ⟨x0, rfl, rfl, rfl, w0⟩ := open_int Try.underlying3 (hval 0 3 v0 rfl rfl) h0
  clear hA0 hval0
  refine (rest x0 W).mono fun e W' ⟨he, bel⟩ => ?_
  subst he
  exact ⟨_, rfl, _, _, _, [], _, [], hW', trodAll_mk1 (shut_bool Try.underlying4 _), (trodAll_cons_mk (shut_int Try.underlying3 w0) trodAll_mk0), rfl, bel.frame _, fun h => by cases h⟩

theorem over : Rows.conicCircleRow.holds Try.pinned (OpenSpec.ofChange Rows.conicCircleSpec) :=
  OpenClaim.holds_of_wide 4 Try.f4 rfl rfl rfl rfl rfl rfl rfl ⟨rfl, rfl, rfl, rfl, rfl⟩ rfl rfl rfl rfl rfl (by kernel_rfl) Try.func4 (by kernel_rfl)
    (of_decide_eq_true (by kernel_rfl)) (by unfold Func.isWrapper; first | (rw [if_pos (by decide +kernel)]; kernel_rfl) | (rw [if_neg (by decide +kernel)]; exact ⟨rfl, rfl⟩))
    (fun os started H enc _ => lifted os started H enc)

/-- The statement. -/
theorem proved : Rows.ConicCircleSaid := over
end Go.Proofs.Ytcdedefhofkbhaa.conicCircle
