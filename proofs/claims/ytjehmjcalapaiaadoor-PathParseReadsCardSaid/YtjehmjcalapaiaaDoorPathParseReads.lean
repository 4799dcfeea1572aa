/- Parse reads the texts of P128, and no other ones. -/
import Derived.WalkKit
import Derived.ProofKit
import Derived.OpenShut
import Derived.ChangeOld
import Derived.Below
import Derived.ChangeMaps5
import Derived.Test.YtjehmjcalapaiaaDoorLaid7
import Derived.Test.YtjehmjcalapaiaaDoorLaid7
import Derived.Test.YtjehmjcalapaiaaDoorPaths
import Derived.Test.YtjehmjcalapaiaaDoorRPar
namespace Go.Proofs.YtjehmjcalapaiaaDoor.pathParseReads
open Go.ChangeMaps Go Go.ChangeShapes Go.WideShapes Go.ChangeAt Go.RowKit Go.Deep
set_option linter.unusedVariables false

set_option maxHeartbeats 1600000 in
theorem rest (t : ByteArray) (W : World) (hw : t.size ≤ maxLen) (he : Env W) :
    Calls Tryd.prog 3 #[.string t] W fun e W' => e = .returned (.bool true) ∧ Below W.heap.size W W' := by
  have HE := hid he
  have HK := fun w (h : Env w) => hid (paths_law w h.tab)
  clear he
  by_cases h : t.size ≤ 40000
  · have HP := fun w (h1 : Env w) => hid (parse_any t w h h1)
    have HR := fun w => hid (rparse_any t w h)
    have HM := hid (show (pS t).length ≤ maxLen by have := pS_len t; unfold maxLen; omega)
    have hle : (t.size : Int) ≤ 40000 := by omega
    clear h
    generalize pE t = r at HP HR
    generalize pS t = ss at HP HR HM
    go_enter Tryd.func3, Tryd.ntmps3
    go_wp2_with fail
    (with_reducible refine (HK _ HE.out).out.mono ?_); rintro e w1 ⟨rfl, hb⟩
    have HB := hid hb
    clear hb
    go_wp2_with fail
    (with_reducible refine (HP _ (HE.out.next HB.out)).out.mono ?_); rintro e w3 ⟨⟨A3, n3, c3, rfl, hn3, hs3⟩, hb⟩
    have HN3 := hid hn3
    have HS3 := hid hs3
    replace HB := hid (below_next HB.out hb)
    clear hb hn3 hs3
    go_wp2_with fail
    (with_reducible refine (HR _).out.mono ?_); rintro e w4 ⟨⟨A4, n4, c4, rfl, hn4, hs4⟩, hb⟩
    have HN4 := hid hn4
    have HS4 := hid hs4
    replace HS3 := hid (HS3.out.next hb)
    replace HB := hid (below_next HB.out hb)
    clear hb hn4 hs4
    go_wp2_with fail
    (with_reducible refine (same_yes A3 A4 ss _ _ c3 c4 _ HN3.out HN4.out HS3.out HS4.out HM.out).mono ?_); rintro e w5 ⟨rfl, hb⟩
    replace HB := hid (below_next HB.out hb)
    clear hb
    go_wp2_with fail
    go_ret
    exact ⟨rfl, HB.out⟩
  · have hle : ¬ (t.size : Int) ≤ 40000 := by omega
    have hgt : (40000 : Int) < (t.size : Int) := by omega
    clear h
    go_enter Tryd.func3, Tryd.ntmps3
    go_wp2_with fail
    (with_reducible refine (HK _ HE.out).out.mono ?_); rintro e w1 ⟨rfl, hb⟩
    have HB := hid hb
    clear hb
    go_wp2_with fail
    (with_reducible refine (HK _ (HE.out.next HB.out)).out.mono ?_); rintro e w2 ⟨rfl, hb⟩
    replace HB := hid (below_next HB.out hb)
    clear hb
    go_wp2_with fail
    go_ret
    exact ⟨rfl, HB.out⟩

set_option maxRecDepth 100000 in
theorem contract (H : Type) (enc : TypeId × Value → H) (W : World) (base : Nat) (args : Array Value) (ds gs : List (DataW H)) (before : List MemPlace)
    (hval : ∀ (j : Nat) t v, Tryd.f3.params[j]? = some t → args[j]? = some v → Value.okWide Tryd.prog W .any base t v)
    (hW : DataW.Whole enc Tryd.prog Tryd.f3.params.toList Rows.pathParseReadsSpec.vars false W args.toList ds gs before) (hL : laidMetH Tryd.prog Rows.pathParseReadsRow.laid W) (hsh : W.ShapedOpen Tryd.prog) :
    Calls Tryd.prog 3 args W fun e W' => ∃ v, e = .returned v ∧ Rows.pathParseReadsSpec.post enc Tryd.prog Tryd.f3 false true false false W args v W' := by
  have HT := env7 hL hsh
  have hW' := hW
  obtain ⟨p, q, hA0, hV, rfl, hfz, hnd⟩ := hW
  have hA : DataW.TrodAll enc Tryd.prog W 0 (fun _ => true) true Tryd.f3.params.toList args.toList ds p := hA0
  rw [Tryd.params3] at hA hval
  obtain ⟨v0, vs0, d0, ds0, p0, q0, hargs, rfl, rfl, h0, r0⟩ := trodAll_cons hA
  obtain ⟨rfl, rfl, rfl⟩ := trodAll_nil r0
  obtain rfl : args = #[v0] := by cases args; simp_all
  obtain ⟨rfl, rfl⟩ := trodVars_none hV
  obtain ⟨x0, rfl, rfl, rfl, w0⟩ := open_string Tryd.underlying9 (hval 0 9 v0 rfl rfl) h0
  clear hA0
  refine (rest x0 W w0 HT).mono fun e W' ⟨he, bel⟩ => ?_
  subst he
  exact ⟨_, rfl, _, _, _, [], _, [], hW', trodAll_mk1 (shut_bool Tryd.underlying4 _), (trodAll_cons_mk (shut_string Tryd.underlying9 w0) trodAll_mk0), rfl, bel.frame _, fun h => by cases h⟩

theorem reads (os : Os) {H : Type} (enc : TypeId × Value → H) : ∃ places, DataW.whole enc Tryd.prog ((laidWorld7 os).forCall (fun _ _ => 0) ⟨#[], #[.string ⟨#[]⟩], []⟩).memory Tryd.f3.params.toList Rows.pathParseReadsSpec.vars false (#[.string ⟨#[]⟩] : Array Value).toList 8 = some ([.lit (.string [])], [], places) :=
  ⟨[], by kernel_rfl⟩

set_option maxRecDepth 100000 in
theorem lifted (os : Os) (started : os.Started) (H : Type) (enc : TypeId × Value → H) (F : Stop.Interp) :
    ReturnsInHanded {} Tryd.checked os 3 .any ((OpenSpec.ofChange Rows.pathParseReadsSpec).preRow enc Tryd.prog Tryd.f3 Rows.pathParseReadsRow.domain false Rows.pathParseReadsRow.laid) (((OpenSpec.ofChange Rows.pathParseReadsSpec).at F).post enc Tryd.prog Tryd.f3 false true false false) := by
  obtain ⟨places, hx⟩ := reads os enc
  refine returnsInHanded_of_row (C := Tryd.checked) (s := OpenSpec.ofChange Rows.pathParseReadsSpec) own started (by kernel_rfl) Tryd.func3
    (witness_row_at (enc := enc) (C := Tryd.checked) false (laidWorld7 os) #[.string ⟨#[]⟩] rfl (by kernel_rfl) (by kernel_rfl) (by kernel_rfl)
      (OpenSpec.preRow_of_cond 8 hx (by kernel_rfl) (fun k hk => by cases hk) (by kernel_rfl) (laid_met7 os _))) ?_
  intro W base args ds gs before hval hW _ _ _ hL hsh _
  exact contract H enc W base args ds gs before hval hW hL hsh

theorem said : Rows.PathParseReadsSaid :=
  OpenClaim.holds_of_cond 3 Tryd.f3 rfl rfl rfl rfl rfl rfl rfl ⟨rfl, rfl, rfl, rfl, rfl⟩ rfl rfl rfl rfl rfl (by kernel_rfl) Tryd.func3 (by kernel_rfl)
    (of_decide_eq_true (by kernel_rfl)) (by unfold Func.isWrapper; first | (rw [if_pos (by decide +kernel)]; kernel_rfl) | (rw [if_neg (by decide +kernel)]; exact ⟨rfl, rfl⟩))
    (fun os started H enc _ F => by rw [OpenClaim.pre_eq_preRow]; exact lifted os started H enc F)

theorem plain (f : FuncId) (fn : Func) (hf : Tryd.pinned.checked.prog.funcNamed "printworks/printworkslaw1.PathParseReads" = some f) (hfn : Tryd.pinned.checked.prog.funcs[f]? = some fn) :
    true = Tryd.pinned.checked.prog.looks [] ∧ ∀ (j : Nat) t, fn.params[j]? = some t → Tryd.pinned.checked.prog.wantsStandIn t = false := by
  obtain rfl : f = 3 := Option.some.inj ((show Tryd.prog.funcNamed "printworks/printworkslaw1.PathParseReads" = some 3 by kernel_rfl).symm.trans hf) |>.symm
  obtain rfl : fn = Tryd.f3 := (Option.some.inj (Tryd.func3.symm.trans hfn)).symm
  refine ⟨by kernel_rfl, fun j t ht => ?_⟩
  have h := Array.all_eq_true_iff_forall_mem.1 (show (Tryd.f3.params.all fun t => !(Tryd.prog.wantsStandIn t)) = true by kernel_rfl) t (Array.mem_of_getElem? ht)
  exact (Bool.not_eq_true' _).mp h

/-- The statement's card. -/
theorem proved : Rows.PathParseReadsCardSaid :=
  Claim7.holds_tied_plain_at .later [] _ _ _ _ said (fun _ h => by cases h) (by kernel_rfl) (fun _ h => by cases h) pathParseReads_row_tie rfl ⟨rfl, rfl⟩ (by kernel_rfl) rfl plain (by kernel_rfl)
end Go.Proofs.YtjehmjcalapaiaaDoor.pathParseReads
