/- Rectangle of package path is the closed path of its corners. -/
import Derived.WalkKit
import Derived.ProofKit
import Derived.OpenShut
import Derived.ChangeOld
import Derived.Below
import Derived.Test.YtbdpjdhnmllkiaaDoorLaid
import Derived.Test.YtbdpjdhnmllkiaaDoorPaths
namespace Go.Proofs.YtbdpjdhnmllkiaaDoor.pathRectangleSegs
open Go Go.ChangeShapes Go.WideShapes Go.ChangeAt Go.RowKit Go.Deep
set_option linter.unusedVariables false

theorem rect_len (x0 y0 x1 y1 : Int) : (rectP x0 y0 x1 y1).length ≤ maxLen := (by decide : 5 ≤ maxLen)
theorem wi_co {x0 y0 x1 y1 : Int} : Wi 32767 [x0, y0, x1, y1] ↔ Co x0 y0 ∧ Co x1 y1 := by
  rw [wi4]
  unfold Co
  omega

set_option maxHeartbeats 3200000 in
theorem rest (x0 y0 x1 y1 : Int) (W : World) (h0 : -9223372036854775808 ≤ x0 ∧ x0 ≤ 9223372036854775807) (h1 : -9223372036854775808 ≤ y0 ∧ y0 ≤ 9223372036854775807) (h2 : -9223372036854775808 ≤ x1 ∧ x1 ≤ 9223372036854775807) (h3 : -9223372036854775808 ≤ y1 ∧ y1 ≤ 9223372036854775807) (htab : Tab W) :
    Calls Tryd.prog 12 #[.int .i64 x0, .int .i64 y0, .int .i64 x1, .int .i64 y1] W fun e w' => e = .returned (.bool true) ∧ Below W.heap.size W w' := by
  have HT := hid htab
  clear htab h0 h1 h2 h3
  by_cases hc0 : Co x0 y0
  case neg =>
    have e : rectE x0 y0 x1 y1 = 3 := by unfold rectE; rw [if_pos (fun h => hc0 (wi_co.1 h).1)]
    have es : rectS x0 y0 x1 y1 = [] := by unfold rectS; rw [e]; rfl
    have HR := fun w => hid (rect_any x0 y0 x1 y1 w)
    rw [e, es] at HR
    have HC := fun w => hid (coord_b false x0 y0 w (iff_of_false Bool.false_ne_true hc0))
    clear hc0 e es
    go_enter Tryd.func12, Tryd.ntmps12
    go_wp2_with fail
    (with_reducible refine (paths_law _ HT.out).mono ?_); rintro e w1 ⟨rfl, hb⟩
    have HB := hid hb
    clear hb
    go_wp2_with fail
    (with_reducible refine (HR _).out.mono ?_); rintro e w2 ⟨⟨A, n, c, rfl, rfl, -⟩, hb⟩
    replace HB := hid (below_next HB.out hb)
    clear hb
    go_wp2_with fail
    (with_reducible refine (HC _).out.mono ?_); rintro e w3 ⟨rfl, hb⟩
    replace HB := hid (below_next HB.out hb)
    clear hb
    go_wp2_with fail
    go_ret
    exact ⟨rfl, HB.out⟩
  by_cases hc1 : Co x1 y1
  case neg =>
    have e : rectE x0 y0 x1 y1 = 3 := by unfold rectE; rw [if_pos (fun h => hc1 (wi_co.1 h).2)]
    have es : rectS x0 y0 x1 y1 = [] := by unfold rectS; rw [e]; rfl
    have HR := fun w => hid (rect_any x0 y0 x1 y1 w)
    rw [e, es] at HR
    have HC := fun w => hid (coord_b true x0 y0 w (iff_of_true rfl hc0))
    have HC1 := fun w => hid (coord_b false x1 y1 w (iff_of_false Bool.false_ne_true hc1))
    clear hc0 hc1 e es
    go_enter Tryd.func12, Tryd.ntmps12
    go_wp2_with fail
    (with_reducible refine (paths_law _ HT.out).mono ?_); rintro e w1 ⟨rfl, hb⟩
    have HB := hid hb
    clear hb
    go_wp2_with fail
    (with_reducible refine (HR _).out.mono ?_); rintro e w2 ⟨⟨A, n, c, rfl, rfl, -⟩, hb⟩
    replace HB := hid (below_next HB.out hb)
    clear hb
    go_wp2_with fail
    (with_reducible refine (HC _).out.mono ?_); rintro e w3 ⟨rfl, hb⟩
    replace HB := hid (below_next HB.out hb)
    clear hb
    go_wp2_with fail
    (with_reducible refine (HC1 _).out.mono ?_); rintro e w4 ⟨rfl, hb⟩
    replace HB := hid (below_next HB.out hb)
    clear hb
    go_wp2_with fail
    go_ret
    exact ⟨rfl, HB.out⟩
  have HC := fun w => hid (coord_b true x0 y0 w (iff_of_true rfl hc0))
  have HC1 := fun w => hid (coord_b true x1 y1 w (iff_of_true rfl hc1))
  have hw := wi_co.2 ⟨hc0, hc1⟩
  have HR := fun w => hid (rect_any x0 y0 x1 y1 w)
  by_cases ho : x1 ≤ x0 ∨ y1 ≤ y0
  case pos =>
    have e : rectE x0 y0 x1 y1 = 18 := by unfold rectE; rw [if_neg (fun k => k hw), if_pos ho]
    have es : rectS x0 y0 x1 y1 = [] := by unfold rectS; rw [e]; rfl
    rw [e, es] at HR
    have ho' : x1 ≤ x0 ∨ x0 < x1 ∧ y1 ≤ y0 := by omega
    clear hc0 hc1 e es hw ho
    rcases ho' with ho | ⟨ho1, ho⟩
    all_goals
      go_enter Tryd.func12, Tryd.ntmps12
      go_wp2_with fail
      (with_reducible refine (paths_law _ HT.out).mono ?_); rintro e w1 ⟨rfl, hb⟩
      have HB := hid hb
      clear hb
      go_wp2_with fail
      (with_reducible refine (HR _).out.mono ?_); rintro e w2 ⟨⟨A, n, c, rfl, rfl, -⟩, hb⟩
      replace HB := hid (below_next HB.out hb)
      clear hb
      go_wp2_with fail
      (with_reducible refine (HC _).out.mono ?_); rintro e w3 ⟨rfl, hb⟩
      replace HB := hid (below_next HB.out hb)
      clear hb
      go_wp2_with fail
      (with_reducible refine (HC1 _).out.mono ?_); rintro e w4 ⟨rfl, hb⟩
      replace HB := hid (below_next HB.out hb)
      clear hb
      go_wp2_with fail
      go_ret
      exact ⟨rfl, HB.out⟩
  have e : rectE x0 y0 x1 y1 = 0 := by unfold rectE; rw [if_neg (fun k => k hw), if_neg ho]
  have es : rectS x0 y0 x1 y1 = rectP x0 y0 x1 y1 := by unfold rectS; rw [if_pos e]
  rw [e, es] at HR
  have ho1 : x0 < x1 := by omega
  have ho2 : y0 < y1 := by omega
  clear hc0 hc1 e es hw ho
  go_enter Tryd.func12, Tryd.ntmps12
  go_wp2_with fail
  (with_reducible refine (paths_law _ HT.out).mono ?_); rintro e w1 ⟨rfl, hb⟩
  have HB := hid hb
  clear hb
  go_wp2_with fail
  (with_reducible refine (HR _).out.mono ?_); rintro e w2 ⟨⟨A, n, c, rfl, hn, hs⟩, hb⟩
  replace HB := hid (below_next HB.out hb)
  have HN := hid hn
  have HS := hid hs
  clear hb hn hs
  go_wp2_with fail
  (with_reducible refine (HC _).out.mono ?_); rintro e w3 ⟨rfl, hb⟩
  replace HB := hid (below_next HB.out hb)
  replace HS := hid (HS.out.next hb)
  clear hb
  go_wp2_with fail
  (with_reducible refine (HC1 _).out.mono ?_); rintro e w4 ⟨rfl, hb⟩
  replace HB := hid (below_next HB.out hb)
  replace HS := hid (HS.out.next hb)
  clear hb
  have HV := hid (Var.segs (Var.new w4 (flat (rectP x0 y0 x1 y1)).toArray 32 _ rfl))
  have HS2 := hid (HS.out.next (below_alloc (Below.refl _ w4) (.cells (flat (rectP x0 y0 x1 y1)).toArray 32)))
  have HB2 := hid (below_alloc HB.out (.cells (flat (rectP x0 y0 x1 y1)).toArray 32))
  go_wp2_with fail
  change Calls Tryd.prog 25 _ (w4.alloc (.cells (flat (rectP x0 y0 x1 y1)).toArray 32)) _
  (with_reducible refine (same_yes A _ (rectP x0 y0 x1 y1) n 5 c 5 _ HN.out rfl HS2.out HV.out (rect_len _ _ _ _)).mono ?_); rintro e w5 ⟨rfl, hb⟩
  replace HB := hid (below_next HB2.out hb)
  clear hb
  go_wp2_with fail
  go_ret
  exact ⟨rfl, HB.out⟩

set_option maxRecDepth 100000 in
theorem contract (H : Type) (enc : TypeId × Value → H) (W : World) (base : Nat) (args : Array Value) (ds gs : List (DataW H)) (before : List MemPlace)
    (hval : ∀ (j : Nat) t v, Tryd.f12.params[j]? = some t → args[j]? = some v → Value.okWide Tryd.prog W .any base t v)
    (hW : DataW.Whole enc Tryd.prog Tryd.f12.params.toList Rows.pathRectangleSegsSpec.vars false W args.toList ds gs before) (hL : laidMetH Tryd.prog Rows.pathRectangleSegsRow.laid W) :
    Calls Tryd.prog 12 args W fun e W' => ∃ v, e = .returned v ∧ Rows.pathRectangleSegsSpec.post enc Tryd.prog Tryd.f12 false true false false W args v W' := by
  have HT := table3 hL
  have hW' := hW
  obtain ⟨p, q, hA0, hV, rfl, hfz, hnd⟩ := hW
  have hA : DataW.TrodAll enc Tryd.prog W 0 (fun _ => true) true Tryd.f12.params.toList args.toList ds p := hA0
  rw [Tryd.params12] at hA hval
  obtain ⟨v0, vs0, d0, ds0, p0, q0, hargs, rfl, rfl, h0, r0⟩ := trodAll_cons hA
  obtain ⟨v1, vs1, d1, ds1, p1, q1, rfl, rfl, rfl, h1, r1⟩ := trodAll_cons r0
  obtain ⟨v2, vs2, d2, ds2, p2, q2, rfl, rfl, rfl, h2, r2⟩ := trodAll_cons r1
  obtain ⟨v3, vs3, d3, ds3, p3, q3, rfl, rfl, rfl, h3, r3⟩ := trodAll_cons r2
  obtain ⟨rfl, rfl, rfl⟩ := trodAll_nil r3
  obtain rfl : args = #[v0, v1, v2, v3] := by cases args; simp_all
  obtain ⟨rfl, rfl⟩ := trodVars_none hV
  obtain ⟨x0, rfl, rfl, rfl, w0⟩ := open_int Tryd.underlying3 (hval 0 3 v0 rfl rfl) h0
  obtain ⟨x1, rfl, rfl, rfl, w1⟩ := open_int Tryd.underlying3 (hval 1 3 v1 rfl rfl) h1
  obtain ⟨x2, rfl, rfl, rfl, w2⟩ := open_int Tryd.underlying3 (hval 2 3 v2 rfl rfl) h2
  obtain ⟨x3, rfl, rfl, rfl, w3⟩ := open_int Tryd.underlying3 (hval 3 3 v3 rfl rfl) h3
  clear hA0
  refine (rest x0 x1 x2 x3 W (i64_wf w0) (i64_wf w1) (i64_wf w2) (i64_wf w3) HT).mono fun e W' ⟨he, bel⟩ => ?_
  subst he
  exact ⟨_, rfl, _, _, _, [], _, [], hW', trodAll_mk1 (shut_bool Tryd.underlying4 _), (trodAll_cons_mk (shut_int Tryd.underlying3 w0) (trodAll_cons_mk (shut_int Tryd.underlying3 w1) (trodAll_cons_mk (shut_int Tryd.underlying3 w2) (trodAll_cons_mk (shut_int Tryd.underlying3 w3) trodAll_mk0)))), rfl, bel.frame _, fun h => by cases h⟩

theorem reads (os : Os) {H : Type} (enc : TypeId × Value → H) : ∃ places, DataW.whole enc Tryd.prog ((laidWorld os).forCall (fun _ _ => 0) ⟨#[], #[.int .i64 0, .int .i64 0, .int .i64 0, .int .i64 0], []⟩).memory Tryd.f12.params.toList Rows.pathRectangleSegsSpec.vars false (#[.int .i64 0, .int .i64 0, .int .i64 0, .int .i64 0] : Array Value).toList 8 = some ([.lit (.int .i64 0), .lit (.int .i64 0), .lit (.int .i64 0), .lit (.int .i64 0)], [], places) :=
  ⟨[], by kernel_rfl⟩

set_option maxRecDepth 100000 in
theorem lifted (os : Os) (started : os.Started) (H : Type) (enc : TypeId × Value → H) (F : Stop.Interp) :
    ReturnsInHanded {} Tryd.checked os 12 .any ((OpenSpec.ofChange Rows.pathRectangleSegsSpec).preRow enc Tryd.prog Tryd.f12 Rows.pathRectangleSegsRow.domain false Rows.pathRectangleSegsRow.laid) (((OpenSpec.ofChange Rows.pathRectangleSegsSpec).at F).post enc Tryd.prog Tryd.f12 false true false false) := by
  obtain ⟨places, hx⟩ := reads os enc
  refine returnsInHanded_of_row (C := Tryd.checked) (s := OpenSpec.ofChange Rows.pathRectangleSegsSpec) own started (by kernel_rfl) Tryd.func12
    (witness_row_at (enc := enc) (C := Tryd.checked) false (laidWorld os) #[.int .i64 0, .int .i64 0, .int .i64 0, .int .i64 0] rfl (by kernel_rfl) (by kernel_rfl) (by kernel_rfl)
      (OpenSpec.preRow_of_cond 8 hx (by kernel_rfl) (fun k hk => by cases hk) (by kernel_rfl) (laid_met os _))) ?_
  intro W base args ds gs before hval hW _ _ _ hL _ _
  exact contract H enc W base args ds gs before hval hW hL

theorem said : Rows.PathRectangleSegsSaid :=
  OpenClaim.holds_of_cond 12 Tryd.f12 rfl rfl rfl rfl rfl rfl rfl ⟨rfl, rfl, rfl, rfl, rfl⟩ rfl rfl rfl rfl rfl (by kernel_rfl) Tryd.func12 (by kernel_rfl)
    (of_decide_eq_true (by kernel_rfl)) (by unfold Func.isWrapper; first | (rw [if_pos (by decide +kernel)]; kernel_rfl) | (rw [if_neg (by decide +kernel)]; exact ⟨rfl, rfl⟩))
    (fun os started H enc _ F => by rw [OpenClaim.pre_eq_preRow]; exact lifted os started H enc F)

theorem plain (f : FuncId) (fn : Func) (hf : Tryd.pinned.checked.prog.funcNamed "printworks/printworkslaw1.PathRectangleSegs" = some f) (hfn : Tryd.pinned.checked.prog.funcs[f]? = some fn) :
    true = Tryd.pinned.checked.prog.looks [] ∧ ∀ (j : Nat) t, fn.params[j]? = some t → Tryd.pinned.checked.prog.wantsStandIn t = false := by
  obtain rfl : f = 12 := Option.some.inj ((show Tryd.prog.funcNamed "printworks/printworkslaw1.PathRectangleSegs" = some 12 by kernel_rfl).symm.trans hf) |>.symm
  obtain rfl : fn = Tryd.f12 := (Option.some.inj (Tryd.func12.symm.trans hfn)).symm
  refine ⟨by kernel_rfl, fun j t ht => ?_⟩
  have h := Array.all_eq_true_iff_forall_mem.1 (show (Tryd.f12.params.all fun t => !(Tryd.prog.wantsStandIn t)) = true by kernel_rfl) t (Array.mem_of_getElem? ht)
  exact (Bool.not_eq_true' _).mp h

/-- The statement's card. -/
theorem proved : Rows.PathRectangleSegsCardSaid :=
  Claim7.holds_tied_plain_at .later [] _ _ _ _ said (fun _ h => by cases h) (by kernel_rfl) (fun _ h => by cases h) pathRectangleSegs_row_tie rfl ⟨rfl, rfl⟩ (by kernel_rfl) rfl plain (by kernel_rfl)
end Go.Proofs.YtbdpjdhnmllkiaaDoor.pathRectangleSegs
