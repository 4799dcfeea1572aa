/- Reversing a path of package path twice changes nothing, and the bounds stay the same. -/
import Derived.WalkKit
import Derived.ProofKit
import Derived.OpenShut
import Derived.ChangeOld
import Derived.Below
import Derived.Test.YtbdpjdhnmllkiaaDoorLaid
import Derived.Test.YtbdpjdhnmllkiaaDoorPaths
import Derived.Test.YtbdpjdhnmllkiaaDoorRev
import Derived.Test.YtbdpjdhnmllkiaaDoorRevP
import Derived.Test.YtbdpjdhnmllkiaaDoorEql
import Derived.Test.YtbdpjdhnmllkiaaDoorBnd
namespace Go.Proofs.YtbdpjdhnmllkiaaDoor.pathReverseTwice
open Go Go.ChangeShapes Go.WideShapes Go.ChangeAt Go.RowKit Go.Deep
set_option linter.unusedVariables false


-- caps
set_option maxHeartbeats 3200000 in
theorem rest (A : Option Addr) (n c : Nat) (ss : List Sg) (W : World) (hn : n = ss.length) (hs : Segs W A ss) (hm : ss.length ≤ maxLen) (hc : n ≤ c ∧ c ≤ maxLen) (htab : Tab W) :
    Calls Tryd.prog 4 #[.slice A n c] W fun e W' => e = .returned (.bool true) ∧ Below W.heap.size W W' := by
  have HT := hid htab
  have HS := hid hs
  by_cases h : chk ss = 0
  case pos =>
    have HV := fun w (h1 : Segs w A ss) => hid (reverse_good A ss n c w hn h1 h hc)
    have HW := fun A2 n2 c2 w (h2 : n2 = (rev ss).length) (h1 : Segs w A2 (rev ss)) (h3 : n2 ≤ c2 ∧ c2 ≤ maxLen) => hid (reverse_good A2 (rev ss) n2 c2 w h2 h1 (rev_chk h) h3)
    rw [rev_rev h] at HW
    have HP := fun w (h1 : Segs w A ss) => hid (bounds_any A ss n c w hn h1)
    have HQ := fun A2 n2 c2 w (h2 : n2 = (rev ss).length) (h1 : Segs w A2 (rev ss)) => hid (bounds_any A2 (rev ss) n2 c2 w h2 h1)
    rw [(bnd_rev h).1, (bnd_rev h).2] at HQ
    have HL := hid hm
    have HN := hid hn
    clear hn hs hm htab hc h
    generalize bB ss = K at HP HQ
    generalize bE ss = r at HP HQ
    go_enter Tryd.func4, Tryd.ntmps4
    go_wp2_with fail
    (with_reducible refine (paths_keep _ HT.out).mono ?_); rintro e w1 ⟨rfl, hb⟩
    have HB := hid hb
    clear hb
    go_wp2_with fail
    (with_reducible refine (HV _ (HS.out.next HB.out)).out.mono ?_); rintro e w2 ⟨v2, rfl, hown, hb⟩
    obtain ⟨A2, c2, rfl, hl2, hs2⟩ := own_segs hown
    have HC2 := hid (own_cap hown)
    have HS2 := hid hs2
    replace HB := hid (below_next HB.out hb)
    clear hb hown hs2 hl2
    go_wp2_with fail
    (with_reducible refine (HW A2 _ c2 _ rfl HS2.out HC2.out.2).out.mono ?_); rintro e w3 ⟨v3, rfl, hown, hb⟩
    obtain ⟨A3, c3, rfl, hl3, hs3⟩ := own_segs hown
    have HS3 := hid hs3
    replace HB := hid (below_next HB.out hb)
    replace HS2 := hid (HS2.out.next hb)
    clear hb hown hs3 hl3
    go_wp2_with fail
    (with_reducible refine (HP _ (HS.out.next HB.out)).out.mono ?_); rintro e w4 ⟨rfl, hb⟩
    replace HB := hid (below_next HB.out hb)
    replace HS2 := hid (HS2.out.next hb)
    replace HS3 := hid (HS3.out.next hb)
    clear hb
    have HV6 := hid ((Var.new w4 (pc K.a K.b) 36 _ rfl).alloc (.cells (pc K.c K.d) 36))
    have HV7 := hid (Var.new (w4.alloc (.cells (pc K.a K.b) 36)) (pc K.c K.d) 36 (w4.heap.size + 1) (by simp))
    have HX := hid (below_alloc (below_alloc (Below.refl _ w4) (.cells (pc K.a K.b) 36)) (.cells (pc K.c K.d) 36))
    go_upto_region 8 with fail
    generalize (w4.alloc _).alloc _ = w5 at HV6 HV7 HX ⊢
    replace HB := hid (below_next HB.out HX.out)
    replace HS2 := hid (HS2.out.next HX.out)
    replace HS3 := hid (HS3.out.next HX.out)
    clear HX
    go_wp2_with fail
    (with_reducible refine (HQ A2 _ c2 _ rfl HS2.out).out.mono ?_); rintro e w6 ⟨rfl, hb⟩
    replace HB := hid (below_next HB.out hb)
    replace HS3 := hid (HS3.out.next hb)
    replace HV6 := hid (((HV6.out.next hb).alloc (.cells (pc K.a K.b) 36)).alloc (.cells (pc K.c K.d) 36))
    replace HV7 := hid (((HV7.out.next hb).alloc (.cells (pc K.a K.b) 36)).alloc (.cells (pc K.c K.d) 36))
    clear hb HS2
    have HV9 := hid ((Var.new w6 (pc K.a K.b) 36 _ rfl).alloc (.cells (pc K.c K.d) 36))
    have HV10 := hid (Var.new (w6.alloc (.cells (pc K.a K.b) 36)) (pc K.c K.d) 36 (w6.heap.size + 1) (by simp))
    have HX := hid (below_alloc (below_alloc (Below.refl _ w6) (.cells (pc K.a K.b) 36)) (.cells (pc K.c K.d) 36))
    go_upto_region 9 with fail
    generalize (w6.alloc _).alloc _ = w7 at HV6 HV7 HV9 HV10 HX ⊢
    replace HB := hid (below_next HB.out HX.out)
    replace HS3 := hid (HS3.out.next HX.out)
    clear HX
    go_wp2_with fail
    (with_reducible refine (equal_yes A A3 ss _ _ c c3 _ HN.out rfl (HS.out.next HB.out) HS3.out HL.out).mono ?_); rintro e w8 ⟨rfl, hb⟩
    replace HB := hid (below_next HB.out hb)
    obtain ⟨x0, x1, xf⟩ := (HV6.out.next hb).read2
    obtain ⟨y0, y1, yf⟩ := (HV7.out.next hb).read2
    obtain ⟨z0, z1, zf⟩ := (HV9.out.next hb).read2
    obtain ⟨v0, v1, vf⟩ := (HV10.out.next hb).read2
    clear hb
    go_wp2_with fail
    go_ret
    exact ⟨rfl, HB.out⟩
  case neg =>
    have HV := fun w (h1 : Segs w A ss) => hid (reverse_bad A ss n c w hn (fun _ => h1) h)
    have HCK := fun w (h1 : Segs w A ss) => hid (check_any A ss n c w hn fun _ => h1)
    have hne : (chk ss != 0) = true := by simp [h]
    clear hn hs hm htab h
    generalize chk ss = r at HV HCK hne
    go_enter Tryd.func4, Tryd.ntmps4
    go_wp2_with fail
    (with_reducible refine (paths_keep _ HT.out).mono ?_); rintro e w1 ⟨rfl, hb⟩
    have HB := hid hb
    clear hb
    go_wp2_with fail
    (with_reducible refine (HV _ (HS.out.next HB.out)).out.mono ?_); rintro e w2 ⟨rfl, hb⟩
    replace HB := hid (below_next HB.out hb)
    clear hb
    go_wp2_with fail
    (with_reducible refine (HCK _ (HS.out.next HB.out)).out.mono ?_); rintro e w3 ⟨rfl, hb⟩
    replace HB := hid (below_next HB.out hb)
    clear hb
    go_wp2_with fail
    go_ret
    exact ⟨rfl, HB.out⟩

set_option maxRecDepth 100000 in
theorem contract (H : Type) (enc : TypeId × Value → H) (W : World) (base : Nat) (args : Array Value) (ds gs : List (DataW H)) (before : List MemPlace)
    (hval : ∀ (j : Nat) t v, Tryd.f4.params[j]? = some t → args[j]? = some v → Value.okWide Tryd.prog W .any base t v)
    (hW : DataW.Whole enc Tryd.prog Tryd.f4.params.toList Rows.pathReverseTwiceSpec.vars false W args.toList ds gs before) (hL : laidMetH Tryd.prog Rows.pathReverseTwiceRow.laid W) :
    Calls Tryd.prog 4 args W fun e W' => ∃ v, e = .returned v ∧ Rows.pathReverseTwiceSpec.post enc Tryd.prog Tryd.f4 false true false false W args v W' := by
  have HT := table3 hL
  have hW' := hW
  obtain ⟨p, q, hA0, hV, rfl, hfz, hnd⟩ := hW
  have hA : DataW.TrodAll enc Tryd.prog W 0 (fun _ => true) true Tryd.f4.params.toList args.toList ds p := hA0
  rw [Tryd.params4] at hA hval
  obtain ⟨v0, vs0, d0, ds0, p0, q0, hargs, rfl, rfl, h0, r0⟩ := trodAll_cons hA
  obtain ⟨rfl, rfl, rfl⟩ := trodAll_nil r0
  obtain rfl : args = #[v0] := by cases args; simp_all
  obtain ⟨rfl, rfl⟩ := trodVars_none hV
  have k0 := h0
  have lt0 : ∀ x ∈ p0, x.block < W.heap.size := by obtain ⟨m, hm⟩ := k0; exact DataW.trod_lt m _ _ _ hm
  obtain ⟨A0, n0, c0, ss0, rfl, hn0, hs0, hm0⟩ := open_segs Tryd.underlying22 Tryd.underlying32 (by kernel_rfl) (by kernel_rfl) (by kernel_rfl) (hval 0 22 v0 rfl rfl) h0
  have hc0 := open_cap Tryd.underlying22 h0
  clear hA0
  refine (rest A0 n0 c0 ss0 W hn0 hs0 hm0 hc0 HT).mono fun e W' ⟨he, bel⟩ => ?_
  subst he
  exact ⟨_, rfl, _, _, _, [], _, [], hW', trodAll_mk1 (shut_bool Tryd.underlying4 _), (trodAll_cons_mk (Below.trod laidOut (by kernel_rfl) (of_decide_eq_true (by kernel_rfl)) k0 bel lt0) trodAll_mk0), rfl, bel.frame _, fun h => by cases h⟩

theorem reads (os : Os) {H : Type} (enc : TypeId × Value → H) : ∃ places, DataW.whole enc Tryd.prog ((laidWorld os).forCall (fun _ _ => 0) ⟨#[], #[.slice none 0 0], []⟩).memory Tryd.f4.params.toList Rows.pathReverseTwiceSpec.vars false (#[.slice none 0 0] : Array Value).toList 8 = some ([.nil], [], places) :=
  ⟨[], by kernel_rfl⟩

set_option maxRecDepth 100000 in
theorem lifted (os : Os) (started : os.Started) (H : Type) (enc : TypeId × Value → H) (F : Stop.Interp) :
    ReturnsInHanded {} Tryd.checked os 4 .any ((OpenSpec.ofChange Rows.pathReverseTwiceSpec).preRow enc Tryd.prog Tryd.f4 Rows.pathReverseTwiceRow.domain false Rows.pathReverseTwiceRow.laid) (((OpenSpec.ofChange Rows.pathReverseTwiceSpec).at F).post enc Tryd.prog Tryd.f4 false true false false) := by
  obtain ⟨places, hx⟩ := reads os enc
  refine returnsInHanded_of_row (C := Tryd.checked) (s := OpenSpec.ofChange Rows.pathReverseTwiceSpec) own started (by kernel_rfl) Tryd.func4
    (witness_row_at (enc := enc) (C := Tryd.checked) false (laidWorld os) #[.slice none 0 0] rfl (by kernel_rfl) (by kernel_rfl) (by kernel_rfl)
      (OpenSpec.preRow_of_cond 8 hx (by kernel_rfl) (fun k hk => by cases hk) (by kernel_rfl) (laid_met os _))) ?_
  intro W base args ds gs before hval hW _ _ _ hL _ _
  exact contract H enc W base args ds gs before hval hW hL

theorem said : Rows.PathReverseTwiceSaid :=
  OpenClaim.holds_of_cond 4 Tryd.f4 rfl rfl rfl rfl rfl rfl rfl ⟨rfl, rfl, rfl, rfl, rfl⟩ rfl rfl rfl rfl rfl (by kernel_rfl) Tryd.func4 (by kernel_rfl)
    (of_decide_eq_true (by kernel_rfl)) (by unfold Func.isWrapper; first | (rw [if_pos (by decide +kernel)]; kernel_rfl) | (rw [if_neg (by decide +kernel)]; exact ⟨rfl, rfl⟩))
    (fun os started H enc _ F => by rw [OpenClaim.pre_eq_preRow]; exact lifted os started H enc F)

theorem plain (f : FuncId) (fn : Func) (hf : Tryd.pinned.checked.prog.funcNamed "printworks/printworkskeep1.PathReverseTwice" = some f) (hfn : Tryd.pinned.checked.prog.funcs[f]? = some fn) :
    true = Tryd.pinned.checked.prog.looks [] ∧ ∀ (j : Nat) t, fn.params[j]? = some t → Tryd.pinned.checked.prog.wantsStandIn t = false := by
  obtain rfl : f = 4 := Option.some.inj ((show Tryd.prog.funcNamed "printworks/printworkskeep1.PathReverseTwice" = some 4 by kernel_rfl).symm.trans hf) |>.symm
  obtain rfl : fn = Tryd.f4 := (Option.some.inj (Tryd.func4.symm.trans hfn)).symm
  refine ⟨by kernel_rfl, fun j t ht => ?_⟩
  have h := Array.all_eq_true_iff_forall_mem.1 (show (Tryd.f4.params.all fun t => !(Tryd.prog.wantsStandIn t)) = true by kernel_rfl) t (Array.mem_of_getElem? ht)
  exact (Bool.not_eq_true' _).mp h

/-- The statement's card. -/
theorem proved : Rows.PathReverseTwiceCardSaid :=
  Claim7.holds_tied_plain_at .later [] _ _ _ _ said (fun _ h => by cases h) (by kernel_rfl) (fun _ h => by cases h) pathReverseTwice_row_tie rfl ⟨rfl, rfl⟩ (by kernel_rfl) rfl plain (by kernel_rfl)
end Go.Proofs.YtbdpjdhnmllkiaaDoor.pathReverseTwice
