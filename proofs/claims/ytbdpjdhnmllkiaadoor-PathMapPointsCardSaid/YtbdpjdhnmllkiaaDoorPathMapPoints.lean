/- Map of package path maps all points and control points of a path. -/
import Derived.WalkKit
import Derived.ProofKit
import Derived.OpenShut
import Derived.ChangeOld
import Derived.Below
import Derived.Test.YtbdpjdhnmllkiaaDoorLaid
import Derived.Test.YtbdpjdhnmllkiaaDoorPaths
import Derived.Test.YtbdpjdhnmllkiaaDoorRMap
namespace Go.Proofs.YtbdpjdhnmllkiaaDoor.pathMapPoints
open Go Go.ChangeShapes Go.WideShapes Go.ChangeAt Go.RowKit Go.Deep
set_option linter.unusedVariables false

set_option maxHeartbeats 3200000 in
theorem rest0 (A : Option Addr) (n c : Nat) (ss : List Sg) (m : Mat) (W : World) (hn : n = ss.length) (hs : Segs W A ss) (hm : ss.length ≤ maxLen) (htab : Tab W) :
    Calls Tryd.prog 6 #[.slice A n c, mat m] W fun e W' => e = .returned (.bool true) ∧ Below W.heap.size W W' := by
  have HT := hid htab
  have HS := hid hs
  have HP := fun w (h1 : Segs w A ss) => hid (map_any A ss n c m w hn h1)
  have HQ := fun w (h1 : Segs w A ss) => hid (rmap_any A ss n c m w hn h1)
  have HL := hid (show (mS m ss).length ≤ maxLen from by unfold mS; split; (rw [List.length_map]; exact hm); exact Nat.zero_le _)
  clear hn hs hm htab
  generalize mE m ss = r at HP HQ
  have HV := hid (Var.new W (mcel m) 41 _ rfl)
  have HB := hid (below_alloc (Below.refl _ W) (.cells (mcel m) 41))
  go_enter Tryd.func6, Tryd.ntmps6
  go_wp2_with fail
  (with_reducible refine (paths_law _ (tab_next HT.out HB.out)).mono ?_); rintro e w1 ⟨rfl, hb⟩
  replace HB := hid (below_next HB.out hb)
  replace HV := hid (HV.out.next hb)
  clear hb
  obtain ⟨q0, q1, q2, q3, q4, q5, qf⟩ := HV.out.read6
  go_wp2_with fail
  clear q0 q1 q2 q3 q4 q5 qf
  (with_reducible refine (HP _ (HS.out.next HB.out)).out.mono ?_); rintro e w2 ⟨⟨A2, n2, c2, rfl, hn2, hs2⟩, hb⟩
  have HS2 := hid hs2
  have HN2 := hid hn2
  replace HB := hid (below_next HB.out hb)
  replace HV := hid (HV.out.next hb)
  clear hb hs2 hn2
  obtain ⟨q0, q1, q2, q3, q4, q5, qf⟩ := HV.out.read6
  go_wp2_with fail
  clear q0 q1 q2 q3 q4 q5 qf
  (with_reducible refine (HQ _ (HS.out.next HB.out)).out.mono ?_); rintro e w3 ⟨⟨A3, n3, c3, rfl, hn3, hs3⟩, hb⟩
  have HS3 := hid hs3
  have HN3 := hid hn3
  replace HB := hid (below_next HB.out hb)
  replace HS2 := hid (HS2.out.next hb)
  clear hb hs3 hn3
  go_wp2_with fail
  (with_reducible refine (same_yes A2 A3 (mS m ss) _ _ c2 c3 _ HN2.out HN3.out HS2.out HS3.out HL.out).mono ?_); rintro e w5 ⟨rfl, hb⟩
  replace HB := hid (below_next HB.out hb)
  clear hb
  go_wp2_with fail
  go_ret
  exact ⟨rfl, HB.out⟩
theorem rest (A : Option Addr) (n c : Nat) (ss : List Sg) (a0 a1 a2 a3 a4 a5 : Int) (W : World) (hn : n = ss.length) (hs : Segs W A ss) (hm : ss.length ≤ maxLen) (htab : Tab W) :
    Calls Tryd.prog 6 #[.slice A n c, mx a0 a1 a2 a3 a4 a5] W fun e W' => e = .returned (.bool true) ∧ Below W.heap.size W W' :=
  rest0 A n c ss ⟨a0, a1, a2, a3, a4, a5⟩ W hn hs hm htab

set_option maxRecDepth 100000 in
theorem contract (H : Type) (enc : TypeId × Value → H) (W : World) (base : Nat) (args : Array Value) (ds gs : List (DataW H)) (before : List MemPlace)
    (hval : ∀ (j : Nat) t v, Tryd.f6.params[j]? = some t → args[j]? = some v → Value.okWide Tryd.prog W .any base t v)
    (hW : DataW.Whole enc Tryd.prog Tryd.f6.params.toList Rows.pathMapPointsSpec.vars false W args.toList ds gs before) (hL : laidMetH Tryd.prog Rows.pathMapPointsRow.laid W) :
    Calls Tryd.prog 6 args W fun e W' => ∃ v, e = .returned v ∧ Rows.pathMapPointsSpec.post enc Tryd.prog Tryd.f6 false true false false W args v W' := by
  have HT := table3 hL
  have hW' := hW
  obtain ⟨p, q, hA0, hV, rfl, hfz, hnd⟩ := hW
  have hA : DataW.TrodAll enc Tryd.prog W 0 (fun _ => true) true Tryd.f6.params.toList args.toList ds p := hA0
  rw [Tryd.params6] at hA hval
  obtain ⟨v0, vs0, d0, ds0, p0, q0, hargs, rfl, rfl, h0, r0⟩ := trodAll_cons hA
  obtain ⟨v1, vs1, d1, ds1, p1, q1, rfl, rfl, rfl, h1, r1⟩ := trodAll_cons r0
  obtain ⟨rfl, rfl, rfl⟩ := trodAll_nil r1
  obtain rfl : args = #[v0, v1] := by cases args; simp_all
  obtain ⟨rfl, rfl⟩ := trodVars_none hV
  have k0 := h0
  have lt0 : ∀ x ∈ p0, x.block < W.heap.size := by obtain ⟨m, hm⟩ := k0; exact DataW.trod_lt m _ _ _ hm
  obtain ⟨A0, n0, c0, ss0, rfl, hn0, hs0, hm0⟩ := open_segs Tryd.underlying22 Tryd.underlying32 (by kernel_rfl) (by kernel_rfl) (by kernel_rfl) (hval 0 22 v0 rfl rfl) h0
  have k1 := h1
  have lt1 : ∀ x ∈ p1, x.block < W.heap.size := by obtain ⟨m, hm⟩ := k1; exact DataW.trod_lt m _ _ _ hm
  obtain ⟨x1_0, x1_1, x1_2, x1_3, x1_4, x1_5, rfl⟩ := open_mx Tryd.underlying41 (by kernel_rfl) (by kernel_rfl) (by kernel_rfl) (hval 1 41 v1 rfl rfl) h1
  clear hA0
  refine (rest A0 n0 c0 ss0 x1_0 x1_1 x1_2 x1_3 x1_4 x1_5 W hn0 hs0 hm0 HT).mono fun e W' ⟨he, bel⟩ => ?_
  subst he
  exact ⟨_, rfl, _, _, _, [], _, [], hW', trodAll_mk1 (shut_bool Tryd.underlying4 _), (trodAll_cons_mk (Below.trod laidOut (by kernel_rfl) (of_decide_eq_true (by kernel_rfl)) k0 bel lt0) (trodAll_cons_mk (Below.trod laidOut (by kernel_rfl) (of_decide_eq_true (by kernel_rfl)) k1 bel lt1) trodAll_mk0)), rfl, bel.frame _, fun h => by cases h⟩

theorem reads (os : Os) {H : Type} (enc : TypeId × Value → H) : ∃ places, DataW.whole enc Tryd.prog ((laidWorld os).forCall (fun _ _ => 0) ⟨#[], #[.slice none 0 0, .agg #[.int .i64 0, .int .i64 0, .int .i64 0, .int .i64 0, .int .i64 0, .int .i64 0]], []⟩).memory Tryd.f6.params.toList Rows.pathMapPointsSpec.vars false (#[.slice none 0 0, .agg #[.int .i64 0, .int .i64 0, .int .i64 0, .int .i64 0, .int .i64 0, .int .i64 0]] : Array Value).toList 8 = some ([.nil, .agg [.lit (.int .i64 0), .lit (.int .i64 0), .lit (.int .i64 0), .lit (.int .i64 0), .lit (.int .i64 0), .lit (.int .i64 0)]], [], places) :=
  ⟨[], by kernel_rfl⟩

set_option maxRecDepth 100000 in
theorem lifted (os : Os) (started : os.Started) (H : Type) (enc : TypeId × Value → H) (F : Stop.Interp) :
    ReturnsInHanded {} Tryd.checked os 6 .any ((OpenSpec.ofChange Rows.pathMapPointsSpec).preRow enc Tryd.prog Tryd.f6 Rows.pathMapPointsRow.domain false Rows.pathMapPointsRow.laid) (((OpenSpec.ofChange Rows.pathMapPointsSpec).at F).post enc Tryd.prog Tryd.f6 false true false false) := by
  obtain ⟨places, hx⟩ := reads os enc
  refine returnsInHanded_of_row (C := Tryd.checked) (s := OpenSpec.ofChange Rows.pathMapPointsSpec) own started (by kernel_rfl) Tryd.func6
    (witness_row_at (enc := enc) (C := Tryd.checked) false (laidWorld os) #[.slice none 0 0, .agg #[.int .i64 0, .int .i64 0, .int .i64 0, .int .i64 0, .int .i64 0, .int .i64 0]] rfl (by kernel_rfl) (by kernel_rfl) (by kernel_rfl)
      (OpenSpec.preRow_of_cond 8 hx (by kernel_rfl) (fun k hk => by cases hk) (by kernel_rfl) (laid_met os _))) ?_
  intro W base args ds gs before hval hW _ _ _ hL _ _
  exact contract H enc W base args ds gs before hval hW hL

theorem said : Rows.PathMapPointsSaid :=
  OpenClaim.holds_of_cond 6 Tryd.f6 rfl rfl rfl rfl rfl rfl rfl ⟨rfl, rfl, rfl, rfl, rfl⟩ rfl rfl rfl rfl rfl (by kernel_rfl) Tryd.func6 (by kernel_rfl)
    (of_decide_eq_true (by kernel_rfl)) (by unfold Func.isWrapper; first | (rw [if_pos (by decide +kernel)]; kernel_rfl) | (rw [if_neg (by decide +kernel)]; exact ⟨rfl, rfl⟩))
    (fun os started H enc _ F => by rw [OpenClaim.pre_eq_preRow]; exact lifted os started H enc F)

theorem plain (f : FuncId) (fn : Func) (hf : Tryd.pinned.checked.prog.funcNamed "printworks/printworkslaw1.PathMapPoints" = some f) (hfn : Tryd.pinned.checked.prog.funcs[f]? = some fn) :
    true = Tryd.pinned.checked.prog.looks [] ∧ ∀ (j : Nat) t, fn.params[j]? = some t → Tryd.pinned.checked.prog.wantsStandIn t = false := by
  obtain rfl : f = 6 := Option.some.inj ((show Tryd.prog.funcNamed "printworks/printworkslaw1.PathMapPoints" = some 6 by kernel_rfl).symm.trans hf) |>.symm
  obtain rfl : fn = Tryd.f6 := (Option.some.inj (Tryd.func6.symm.trans hfn)).symm
  refine ⟨by kernel_rfl, fun j t ht => ?_⟩
  have h := Array.all_eq_true_iff_forall_mem.1 (show (Tryd.f6.params.all fun t => !(Tryd.prog.wantsStandIn t)) = true by kernel_rfl) t (Array.mem_of_getElem? ht)
  exact (Bool.not_eq_true' _).mp h

/-- The statement's card. -/
theorem proved : Rows.PathMapPointsCardSaid :=
  Claim7.holds_tied_plain_at .later [] _ _ _ _ said (fun _ h => by cases h) (by kernel_rfl) (fun _ h => by cases h) pathMapPoints_row_tie rfl ⟨rfl, rfl⟩ (by kernel_rfl) rfl plain (by kernel_rfl)
end Go.Proofs.YtbdpjdhnmllkiaaDoor.pathMapPoints
