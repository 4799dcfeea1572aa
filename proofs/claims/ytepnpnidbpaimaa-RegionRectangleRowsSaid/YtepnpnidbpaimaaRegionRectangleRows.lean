/- Rectangle of package region returns one run in each of its rows, or its errors, for every four integers. -/
import Derived.Test.YtepnpnidbpaimaaRows
import Derived.WalkKit
import Derived.ProofKit
import Derived.OpenShut
import Derived.ChangeOld
import Derived.Below
import Derived.Test.YtepnpnidbpaimaaOpen
import Derived.Test.YtepnpnidbpaimaaRgn
namespace Go.Proofs.Ytepnpnidbpaimaa.regionRectangleRows
open Go Go.ChangeShapes Go.WideShapes Go.ChangeAt Go.RowKit Go.Deep
set_option linter.unusedVariables false

theorem rows_get {y0 x0 x1 : Int} {D k : Nat} (h : k < D) : (rows y0 x0 x1 D)[k]? = some ⟨y0 + (k : Int), x0, x1⟩ := by
  unfold rows
  rw [List.getElem?_map, List.getElem?_range h]
  rfl
set_option maxHeartbeats 4000000 in
set_option maxRecDepth 100000 in
theorem rest (x0 y0 x1 y1 : Int) (W : World) :
    Calls Try.prog 12 #[.int .i64 x0, .int .i64 y0, .int .i64 x1, .int .i64 y1] W fun e w' => e = .returned (.bool true) ∧ Below W.heap.size W w' := by
  by_cases hb4 : bnds [x0, y0, x1, y1] = true
  · obtain ⟨b1, b2, b3, b4⟩ := bnds4_iff.1 hb4
    by_cases ho : x1 < x0 ∨ y1 < y0
    · have HE := hid (show rectE x0 y0 x1 y1 = 18 by unfold rectE; rw [if_pos hb4, if_pos ho])
      have HR := hid (show rectR x0 y0 x1 y1 = [] by unfold rectR; rw [HE.out]; rfl)
      clear hb4
      by_cases h1 : x1 < x0
      · clear ho
        go_enter Try.func12, Try.ntmps12
        go_wp2_with fail
        (with_reducible refine (regions_any _).mono ?_); rintro e w1 ⟨rfl, hb⟩
        have HB := hid hb
        clear hb
        go_wp2_with fail
        (with_reducible refine (rect_any x0 y0 x1 y1 _).mono ?_); rintro e w2 hg
        rw [HE.out, HR.out] at hg
        obtain ⟨A, c, rfl, hr, hb2⟩ := hg.mono
        have HB2 := hid (below_next HB.out hb2)
        clear hg hr hb2
        go_wp2_with (go_at_call 40; (with_reducible refine (in_t _ _ _ _ (by assumption)).mono ?_); rintro e w' ⟨rfl, rfl⟩)
        go_ret
        exact ⟨rfl, HB2.out⟩
      · have h2 : y1 < y0 := by omega
        clear ho
        go_enter Try.func12, Try.ntmps12
        go_wp2_with fail
        (with_reducible refine (regions_any _).mono ?_); rintro e w1 ⟨rfl, hb⟩
        have HB := hid hb
        clear hb
        go_wp2_with fail
        (with_reducible refine (rect_any x0 y0 x1 y1 _).mono ?_); rintro e w2 hg
        rw [HE.out, HR.out] at hg
        obtain ⟨A, c, rfl, hr, hb2⟩ := hg.mono
        have HB2 := hid (below_next HB.out hb2)
        clear hg hr hb2
        go_wp2_with (go_at_call 40; (with_reducible refine (in_t _ _ _ _ (by assumption)).mono ?_); rintro e w' ⟨rfl, rfl⟩)
        go_ret
        exact ⟨rfl, HB2.out⟩
    · have h1 : ¬ x1 < x0 := by omega
      have h2 : ¬ y1 < y0 := by omega
      have HE := hid (show rectE x0 y0 x1 y1 = 0 by unfold rectE; rw [if_pos hb4, if_neg ho])
      by_cases hx : x0 = x1
      · subst hx
        have HR := hid (show rectR x0 y0 x0 y1 = [] by unfold rectR; rw [if_neg (fun k => k.2 rfl)])
        clear hb4 ho
        go_enter Try.func12, Try.ntmps12
        go_wp2_with fail
        (with_reducible refine (regions_any _).mono ?_); rintro e w1 ⟨rfl, hb⟩
        have HB := hid hb
        clear hb
        go_wp2_with fail
        (with_reducible refine (rect_any x0 y0 x0 y1 _).mono ?_); rintro e w2 hg
        rw [HE.out, HR.out] at hg
        obtain ⟨A, c, rfl, hr, hb2⟩ := hg.mono
        have HB2 := hid (below_next HB.out hb2)
        clear hg hr hb2
        go_wp2_with (go_at_call 40; (with_reducible refine (in_t _ _ _ _ (by assumption)).mono ?_); rintro e w' ⟨rfl, rfl⟩)
        go_ret
        exact ⟨rfl, HB2.out⟩
      · obtain ⟨D, hD⟩ : ∃ D : Nat, D = (y1 - y0).toNat := ⟨_, rfl⟩
        have HR := hid (show rectR x0 y0 x1 y1 = rows y0 x0 x1 D by unfold rectR; rw [if_pos ⟨HE.out, hx⟩, hD])
        have hD1 : y1 - y0 ≤ D ∧ (D : Int) ≤ y1 - y0 := by omega
        have hxb : (x0 == x1) = false := by simpa using hx
        have HD := hid (show y1 - y0 = (D : Int) by omega)
        have hDne : ((D : Int) != y1 - y0) = false := by simpa using by omega
        clear hb4 ho hx hD
        go_enter Try.func12, Try.ntmps12
        go_wp2_with fail
        (with_reducible refine (regions_any _).mono ?_); rintro e w1 ⟨rfl, hb⟩
        have HB := hid hb
        clear hb
        go_wp2_with fail
        (with_reducible refine (rect_any x0 y0 x1 y1 _).mono ?_); rintro e w2 hg
        rw [HE.out, HR.out] at hg
        obtain ⟨A, c, rfl, hr, hb2⟩ := hg.mono
        rw [rows_length]
        have HB2 := hid (below_next HB.out hb2)
        have HRR := hid hr
        clear hg hr hb2
        go_wp2_with (go_at_call 40; (with_reducible refine (in_t _ _ _ _ (by assumption)).mono ?_); rintro e w' ⟨rfl, rfl⟩)
        go_loop [84] (fun i => ∃ k : Nat, k ≤ D ∧ i = .int .i64 k) (fun i => D - (intOf i).toNat)
        case atStart => exact ⟨0, Nat.zero_le _, rfl⟩
        case round =>
          obtain ⟨k, hk, rfl⟩ := hrel
          by_cases hlt : k < D
          · have hlz : k < (rows y0 x0 x1 D).length := by rw [rows_length]; exact hlt
            obtain ⟨a, rfl, hal, hsa⟩ := HRR.out.at_ hlz
            have hg := rows_get (y0 := y0) (x0 := x0) (x1 := x1) hlt
            rw [List.getElem?_eq_getElem hlz] at hg
            rw [Option.some.inj hg] at hsa
            obtain ⟨c0, c1, c2⟩ := hsa
            clear hg hDne
            go_wp2_with fail
            go_round
            case rel => exact ⟨k + 1, by omega, by go_num⟩
            case measure => simp [intOf]; omega
          · clear hDne
            go_wp2_with fail
            go_ret
            exact ⟨rfl, HB2.out⟩
  · have hb5 : bnds [x0, y0, x1, y1] = false := by simpa using hb4
    have HE := hid (show rectE x0 y0 x1 y1 = 3 by unfold rectE; rw [if_neg hb4])
    have HR := hid (show rectR x0 y0 x1 y1 = [] by unfold rectR; rw [HE.out]; rfl)
    have hno : ¬ ((-8192 ≤ x0 ∧ x0 ≤ 8192) ∧ (-8192 ≤ y0 ∧ y0 ≤ 8192) ∧ (-8192 ≤ x1 ∧ x1 ≤ 8192) ∧ (-8192 ≤ y1 ∧ y1 ≤ 8192)) := fun k => hb4 (bnds4_iff.2 k)
    clear hb4 hb5
    by_cases d1 : -8192 ≤ x0 ∧ x0 ≤ 8192
    · by_cases d2 : -8192 ≤ y0 ∧ y0 ≤ 8192
      · by_cases d3 : -8192 ≤ x1 ∧ x1 ≤ 8192
        · have d4 : ¬ (-8192 ≤ y1 ∧ y1 ≤ 8192) := fun k => hno ⟨d1, d2, d3, k⟩
          clear hno
          go_enter Try.func12, Try.ntmps12
          go_wp2_with fail
          (with_reducible refine (regions_any _).mono ?_); rintro e w1 ⟨rfl, hb⟩
          have HB := hid hb
          clear hb
          go_wp2_with fail
          (with_reducible refine (rect_any x0 y0 x1 y1 _).mono ?_); rintro e w2 hg
          rw [HE.out, HR.out] at hg
          obtain ⟨A, c, rfl, hr, hb2⟩ := hg.mono
          have HB2 := hid (below_next HB.out hb2)
          clear hg hr hb2
          go_wp2_with (go_at_call 40; (first | (with_reducible refine (in_t _ _ _ _ (by assumption)).mono ?_) | (with_reducible refine (in_f _ _ _ _ (by assumption)).mono ?_)); rintro e w' ⟨rfl, rfl⟩)
          go_ret
          exact ⟨rfl, HB2.out⟩
        · clear hno
          go_enter Try.func12, Try.ntmps12
          go_wp2_with fail
          (with_reducible refine (regions_any _).mono ?_); rintro e w1 ⟨rfl, hb⟩
          have HB := hid hb
          clear hb
          go_wp2_with fail
          (with_reducible refine (rect_any x0 y0 x1 y1 _).mono ?_); rintro e w2 hg
          rw [HE.out, HR.out] at hg
          obtain ⟨A, c, rfl, hr, hb2⟩ := hg.mono
          have HB2 := hid (below_next HB.out hb2)
          clear hg hr hb2
          go_wp2_with (go_at_call 40; (first | (with_reducible refine (in_t _ _ _ _ (by assumption)).mono ?_) | (with_reducible refine (in_f _ _ _ _ (by assumption)).mono ?_)); rintro e w' ⟨rfl, rfl⟩)
          go_ret
          exact ⟨rfl, HB2.out⟩
      · clear hno
        go_enter Try.func12, Try.ntmps12
        go_wp2_with fail
        (with_reducible refine (regions_any _).mono ?_); rintro e w1 ⟨rfl, hb⟩
        have HB := hid hb
        clear hb
        go_wp2_with fail
        (with_reducible refine (rect_any x0 y0 x1 y1 _).mono ?_); rintro e w2 hg
        rw [HE.out, HR.out] at hg
        obtain ⟨A, c, rfl, hr, hb2⟩ := hg.mono
        have HB2 := hid (below_next HB.out hb2)
        clear hg hr hb2
        go_wp2_with (go_at_call 40; (first | (with_reducible refine (in_t _ _ _ _ (by assumption)).mono ?_) | (with_reducible refine (in_f _ _ _ _ (by assumption)).mono ?_)); rintro e w' ⟨rfl, rfl⟩)
        go_ret
        exact ⟨rfl, HB2.out⟩
    · clear hno
      go_enter Try.func12, Try.ntmps12
      go_wp2_with fail
      (with_reducible refine (regions_any _).mono ?_); rintro e w1 ⟨rfl, hb⟩
      have HB := hid hb
      clear hb
      go_wp2_with fail
      (with_reducible refine (rect_any x0 y0 x1 y1 _).mono ?_); rintro e w2 hg
      rw [HE.out, HR.out] at hg
      obtain ⟨A, c, rfl, hr, hb2⟩ := hg.mono
      have HB2 := hid (below_next HB.out hb2)
      clear hg hr hb2
      go_wp2_with (go_at_call 40; (first | (with_reducible refine (in_t _ _ _ _ (by assumption)).mono ?_) | (with_reducible refine (in_f _ _ _ _ (by assumption)).mono ?_)); rintro e w' ⟨rfl, rfl⟩)
      go_ret
      exact ⟨rfl, HB2.out⟩

set_option maxRecDepth 100000 in
theorem lifted (os : Os) (started : os.Started) (H : Type) (enc : TypeId × Value → H) :
    ReturnsInHanded {} Try.checked os 12 .any (Rows.regionRectangleRowsSpec.pre6 enc Try.prog Try.f12 Rows.regionRectangleRowsRow.domain false) (Rows.regionRectangleRowsSpec.post enc Try.prog Try.f12 false true false false) := by
  refine returnsInHanded_of_change (C := Try.checked) own started (by kernel_rfl) Try.func12
    (ChangeSpec.witness6 (enc := enc) (C := Try.checked) false ⟨#[], #[.int .i64 0, .int .i64 0, .int .i64 0, .int .i64 0], []⟩ 8 (by kernel_rfl) (by kernel_rfl) (by kernel_rfl) (by kernel_rfl)) ?_
  intro W base args ds gs before hval0 hW hcnd _
  have hval : ∀ (j : Nat) t v, Try.f12.params[j]? = some t → args[j]? = some v → Value.okWide Try.prog W .any base t v := hval0
  have hW' := hW
  obtain ⟨p, q, hA0, hV, rfl, hfz, hnd⟩ := hW
  have hA : DataW.TrodAll enc Try.prog W 0 (fun _ => true) true Try.f12.params.toList args.toList ds p := hA0
  rw [Try.params12] at hA hval
  obtain ⟨v0, vs0, d0, ds0, p0, q0, hargs, rfl, rfl, h0, r0⟩ := trodAll_cons hA
  obtain ⟨v1, vs1, d1, ds1, p1, q1, rfl, rfl, rfl, h1, r1⟩ := trodAll_cons r0
  obtain ⟨v2, vs2, d2, ds2, p2, q2, rfl, rfl, rfl, h2, r2⟩ := trodAll_cons r1
  obtain ⟨v3, vs3, d3, ds3, p3, q3, rfl, rfl, rfl, h3, r3⟩ := trodAll_cons r2
  obtain ⟨rfl, rfl, rfl⟩ := trodAll_nil r3
  obtain rfl : args = #[v0, v1, v2, v3] := by cases args; simp_all
  obtain ⟨rfl, rfl⟩ := trodVars_none hV
  obtain ⟨x0, rfl, rfl, rfl, w0⟩ := open_int Try.underlying3 (hval 0 3 v0 rfl rfl) h0
  obtain ⟨x1, rfl, rfl, rfl, w1⟩ := open_int Try.underlying3 (hval 1 3 v1 rfl rfl) h1
  obtain ⟨x2, rfl, rfl, rfl, w2⟩ := open_int Try.underlying3 (hval 2 3 v2 rfl rfl) h2
  obtain ⟨x3, rfl, rfl, rfl, w3⟩ := open_int Try.underlying3 (hval 3 3 v3 rfl rfl) h3
  clear hA0 hval0
  refine (rest x0 x1 x2 x3 W).mono fun e W' ⟨he, bel⟩ => ?_
  subst he
  exact ⟨_, rfl, _, _, _, [], _, [], hW', trodAll_mk1 (shut_bool Try.underlying4 _), (trodAll_cons_mk (shut_int Try.underlying3 w0) (trodAll_cons_mk (shut_int Try.underlying3 w1) (trodAll_cons_mk (shut_int Try.underlying3 w2) (trodAll_cons_mk (shut_int Try.underlying3 w3) trodAll_mk0)))), rfl, bel.frame _, fun h => by cases h⟩

theorem over : Rows.regionRectangleRowsRow.holds Try.pinned (OpenSpec.ofChange Rows.regionRectangleRowsSpec) :=
  OpenClaim.holds_of_wide 12 Try.f12 rfl rfl rfl rfl rfl rfl rfl ⟨rfl, rfl, rfl, rfl, rfl⟩ rfl rfl rfl rfl rfl (by kernel_rfl) Try.func12 (by kernel_rfl)
    (of_decide_eq_true (by kernel_rfl)) (by unfold Func.isWrapper; first | (rw [if_pos (by decide +kernel)]; kernel_rfl) | (rw [if_neg (by decide +kernel)]; exact ⟨rfl, rfl⟩))
    (fun os started H enc _ => lifted os started H enc)

/-- The statement. -/
theorem proved : Rows.RegionRectangleRowsSaid := over
end Go.Proofs.Ytepnpnidbpaimaa.regionRectangleRows
