/- Text of package path writes the words of the segments. -/
import Derived.WalkKit
import Derived.ProofKit
import Derived.OpenShut
import Derived.ChangeOld
import Derived.Below
import Derived.Test.YtbdpjdhnmllkiaaDoorLaid
import Derived.Test.YtbdpjdhnmllkiaaDoorPaths
import Derived.Test.YtbdpjdhnmllkiaaDoorRText
namespace Go.Proofs.YtbdpjdhnmllkiaaDoor.pathTextWords
open Go Go.ChangeShapes Go.WideShapes Go.ChangeAt Go.RowKit Go.Deep
set_option linter.unusedVariables false

set_option maxHeartbeats 3200000 in
theorem rest (A : Option Addr) (n c : Nat) (ss : List Sg) (W : World) (hn : n = ss.length) (hs : Segs W A ss) (hm : ss.length ≤ maxLen) (htab : Tab W) :
    Calls Tryd.prog 9 #[.slice A n c] W fun e w' => e = .returned (.bool true) ∧ Below W.heap.size W w' := by
  have HT := hid htab
  have HS := hid hs
  have HN := hid hn
  have HTX := fun w (h1 : Segs w A ss) (h2 : Tab w) => hid (text_any A ss n c w hn (fun _ => h1) h2)
  have HCK := fun w (h1 : Segs w A ss) => hid (rcheck_any A ss n c w hn fun _ => h1)
  by_cases h : chk ss = 0
  case pos =>
    have HR := fun w (h1 : Segs w A ss) => hid (rtext_any A ss n c w hn h1 (chk_le h) (chk_okay h))
    have eo : outT ss = textOf ss := by unfold outT; rw [if_pos h]
    rw [eo, h] at HTX
    rw [h] at HCK
    have eS : (⟨(textOf ss).toArray⟩ : ByteArray) = S (textOf ss) := rfl
    rw [eS] at HTX
    clear hn hs hm htab h eo eS
    generalize S (textOf ss) = T at HTX HR
    go_enter Tryd.func9, Tryd.ntmps9
    go_wp2_with fail
    (with_reducible refine (paths_law _ HT.out).mono ?_); rintro e w1 ⟨rfl, hb⟩
    have HB := hid hb
    clear hb
    go_wp2_with fail
    (with_reducible refine (HTX _ (HS.out.next HB.out) (tab_next HT.out HB.out)).out.mono ?_); rintro e w2 ⟨rfl, hb⟩
    replace HB := hid (below_next HB.out hb)
    clear hb
    go_wp2_with fail
    (with_reducible refine (HCK _ (HS.out.next HB.out)).out.mono ?_); rintro e w3 ⟨rfl, hb⟩
    replace HB := hid (below_next HB.out hb)
    clear hb
    go_wp2_with fail
    (with_reducible refine (HR _ (HS.out.next HB.out)).out.mono ?_); rintro e w4 ⟨rfl, hb⟩
    replace HB := hid (below_next HB.out hb)
    clear hb
    go_wp2_with fail
    go_ret
    exact ⟨rfl, HB.out⟩
  case neg =>
    have eo : outT ss = [] := by unfold outT; rw [if_neg h]
    rw [eo] at HTX
    have hne : (chk ss != 0) = true := by simp [h]
    clear hn hs hm htab h eo
    generalize chk ss = r at HTX HCK hne
    go_enter Tryd.func9, Tryd.ntmps9
    go_wp2_with fail
    (with_reducible refine (paths_law _ HT.out).mono ?_); rintro e w1 ⟨rfl, hb⟩
    have HB := hid hb
    clear hb
    go_wp2_with fail
    (with_reducible refine (HTX _ (HS.out.next HB.out) (tab_next HT.out HB.out)).out.mono ?_); rintro e w2 ⟨rfl, hb⟩
    replace HB := hid (below_next HB.out hb)
    clear hb
    go_wp2_with fail
    (with_reducible refine (HCK _ (HS.out.next HB.out)).out.mono ?_); rintro e w3 ⟨rfl, hb⟩
    replace HB := hid (below_next HB.out hb)
    clear hb
    go_wp2_with fail
    go_ret
    exact ⟨rfl, HB.out⟩

set_option maxRecDepth 100000 in
theorem contract (H : Type) (enc : TypeId × Value → H) (W : World) (base : Nat) (args : Array Value) (ds gs : List (DataW H)) (before : List MemPlace)
    (hval : ∀ (j : Nat) t v, Tryd.f9.params[j]? = some t → args[j]? = some v → Value.okWide Tryd.prog W .any base t v)
    (hW : DataW.Whole enc Tryd.prog Tryd.f9.params.toList Rows.pathTextWordsSpec.vars false W args.toList ds gs before) (hL : laidMetH Tryd.prog Rows.pathTextWordsRow.laid W) :
    Calls Tryd.prog 9 args W fun e W' => ∃ v, e = .returned v ∧ Rows.pathTextWordsSpec.post enc Tryd.prog Tryd.f9 false true false false W args v W' := by
  have HT := table3 hL
  have hW' := hW
  obtain ⟨p, q, hA0, hV, rfl, hfz, hnd⟩ := hW
  have hA : DataW.TrodAll enc Tryd.prog W 0 (fun _ => true) true Tryd.f9.params.toList args.toList ds p := hA0
  rw [Tryd.params9] at hA hval
  obtain ⟨v0, vs0, d0, ds0, p0, q0, hargs, rfl, rfl, h0, r0⟩ := trodAll_cons hA
  obtain ⟨rfl, rfl, rfl⟩ := trodAll_nil r0
  obtain rfl : args = #[v0] := by cases args; simp_all
  obtain ⟨rfl, rfl⟩ := trodVars_none hV
  have k0 := h0
  have lt0 : ∀ x ∈ p0, x.block < W.heap.size := by obtain ⟨m, hm⟩ := k0; exact DataW.trod_lt m _ _ _ hm
  obtain ⟨A0, n0, c0, ss0, rfl, hn0, hs0, hm0⟩ := open_segs Tryd.underlying22 Tryd.underlying32 (by kernel_rfl) (by kernel_rfl) (by kernel_rfl) (hval 0 22 v0 rfl rfl) h0
  clear hA0
  refine (rest A0 n0 c0 ss0 W hn0 hs0 hm0 HT).mono fun e W' ⟨he, bel⟩ => ?_
  subst he
  exact ⟨_, rfl, _, _, _, [], _, [], hW', trodAll_mk1 (shut_bool Tryd.underlying4 _), (trodAll_cons_mk (Below.trod laidOut (by kernel_rfl) (of_decide_eq_true (by kernel_rfl)) k0 bel lt0) trodAll_mk0), rfl, bel.frame _, fun h => by cases h⟩

theorem reads (os : Os) {H : Type} (enc : TypeId × Value → H) : ∃ places, DataW.whole enc Tryd.prog ((laidWorld os).forCall (fun _ _ => 0) ⟨#[], #[.slice none 0 0], []⟩).memory Tryd.f9.params.toList Rows.pathTextWordsSpec.vars false (#[.slice none 0 0] : Array Value).toList 8 = some ([.nil], [], places) :=
  ⟨[], by kernel_rfl⟩

set_option maxRecDepth 100000 in
theorem lifted (os : Os) (started : os.Started) (H : Type) (enc : TypeId × Value → H) (F : Stop.Interp) :
    ReturnsInHanded {} Tryd.checked os 9 .any ((OpenSpec.ofChange Rows.pathTextWordsSpec).preRow enc Tryd.prog Tryd.f9 Rows.pathTextWordsRow.domain false Rows.pathTextWordsRow.laid) (((OpenSpec.ofChange Rows.pathTextWordsSpec).at F).post enc Tryd.prog Tryd.f9 false true false false) := by
  obtain ⟨places, hx⟩ := reads os enc
  refine returnsInHanded_of_row (C := Tryd.checked) (s := OpenSpec.ofChange Rows.pathTextWordsSpec) own started (by kernel_rfl) Tryd.func9
    (witness_row_at (enc := enc) (C := Tryd.checked) false (laidWorld os) #[.slice none 0 0] rfl (by kernel_rfl) (by kernel_rfl) (by kernel_rfl)
      (OpenSpec.preRow_of_cond 8 hx (by kernel_rfl) (fun k hk => by cases hk) (by kernel_rfl) (laid_met os _))) ?_
  intro W base args ds gs before hval hW _ _ _ hL _ _
  exact contract H enc W base args ds gs before hval hW hL

theorem said : Rows.PathTextWordsSaid :=
  OpenClaim.holds_of_cond 9 Tryd.f9 rfl rfl rfl rfl rfl rfl rfl ⟨rfl, rfl, rfl, rfl, rfl⟩ rfl rfl rfl rfl rfl (by kernel_rfl) Tryd.func9 (by kernel_rfl)
    (of_decide_eq_true (by kernel_rfl)) (by unfold Func.isWrapper; first | (rw [if_pos (by decide +kernel)]; kernel_rfl) | (rw [if_neg (by decide +kernel)]; exact ⟨rfl, rfl⟩))
    (fun os started H enc _ F => by rw [OpenClaim.pre_eq_preRow]; exact lifted os started H enc F)

theorem plain (f : FuncId) (fn : Func) (hf : Tryd.pinned.checked.prog.funcNamed "printworks/printworkslaw1.PathTextWords" = some f) (hfn : Tryd.pinned.checked.prog.funcs[f]? = some fn) :
    true = Tryd.pinned.checked.prog.looks [] ∧ ∀ (j : Nat) t, fn.params[j]? = some t → Tryd.pinned.checked.prog.wantsStandIn t = false := by
  obtain rfl : f = 9 := Option.some.inj ((show Tryd.prog.funcNamed "printworks/printworkslaw1.PathTextWords" = some 9 by kernel_rfl).symm.trans hf) |>.symm
  obtain rfl : fn = Tryd.f9 := (Option.some.inj (Tryd.func9.symm.trans hfn)).symm
  refine ⟨by kernel_rfl, fun j t ht => ?_⟩
  have h := Array.all_eq_true_iff_forall_mem.1 (show (Tryd.f9.params.all fun t => !(Tryd.prog.wantsStandIn t)) = true by kernel_rfl) t (Array.mem_of_getElem? ht)
  exact (Bool.not_eq_true' _).mp h

/-- The statement's card. -/
theorem proved : Rows.PathTextWordsCardSaid :=
  Claim7.holds_tied_plain_at .later [] _ _ _ _ said (fun _ h => by cases h) (by kernel_rfl) (fun _ h => by cases h) pathTextWords_row_tie rfl ⟨rfl, rfl⟩ (by kernel_rfl) rfl plain (by kernel_rfl)
end Go.Proofs.YtbdpjdhnmllkiaaDoor.pathTextWords
