/- Bounds of package path has the least and the greatest coordinates of all points and control points. -/
import Derived.WalkKit
import Derived.ProofKit
import Derived.OpenShut
import Derived.ChangeOld
import Derived.Below
import Derived.Test.YtbdpjdhnmllkiaaDoorLaid
import Derived.Test.YtbdpjdhnmllkiaaDoorPaths
import Derived.Test.YtbdpjdhnmllkiaaDoorRBnd
namespace Go.Proofs.YtbdpjdhnmllkiaaDoor.pathBoundsHold
open Go Go.ChangeShapes Go.WideShapes Go.ChangeAt Go.RowKit Go.Deep
set_option linter.unusedVariables false

set_option maxHeartbeats 3200000 in
theorem rest (A : Option Addr) (n c : Nat) (ss : List Sg) (W : World) (hn : n = ss.length) (hs : Segs W A ss) (hm : ss.length ≤ maxLen) (htab : Tab W) :
    Calls Tryd.prog 8 #[.slice A n c] W fun e W' => e = .returned (.bool true) ∧ Below W.heap.size W W' := by
  have HT := hid htab
  have HS := hid hs
  have HCK := fun w (h1 : Segs w A ss) => hid (rcheck_any A ss n c w hn fun _ => h1)
  have HBN := fun w (h1 : Segs w A ss) => hid (bounds_any A ss n c w hn h1)
  by_cases h : chk ss = 0
  case pos =>
    by_cases h0 : ss = []
    case pos =>
      have hn0 : n = 0 := by rw [hn, h0]; rfl
      rw [h] at HCK
      rw [show bE ss = 8 by unfold bE; rw [if_neg (by simpa using h), if_pos h0], show bB ss = ⟨0, 0, 0, 0⟩ by unfold bB bE; rw [if_neg (by rw [if_neg (by simpa using h), if_pos h0]; decide)]] at HBN
      clear hn hs hm htab h h0
      subst hn0
      go_enter Tryd.func8, Tryd.ntmps8
      go_wp2_with fail
      (with_reducible refine (paths_law _ HT.out).mono ?_); rintro e w1 ⟨rfl, hb⟩
      have HB := hid hb
      clear hb
      go_wp2_with fail
      (with_reducible refine (HBN _ (HS.out.next HB.out)).out.mono ?_); rintro e w2 ⟨rfl, hb⟩
      replace HB := hid (below_next HB.out hb)
      clear hb
      have HV3 := hid ((Var.new w2 (pc 0 0) 36 _ rfl).alloc (.cells (pc 0 0) 36))
      have HV4 := hid (Var.new (w2.alloc (.cells (pc 0 0) 36)) (pc 0 0) 36 (w2.heap.size + 1) (by simp))
      replace HB := hid (below_alloc (below_alloc HB.out (.cells (pc 0 0) 36)) (.cells (pc 0 0) 36))
      go_upto_region 4 with fail
      generalize (w2.alloc _).alloc _ = w3 at HV3 HV4 HB ⊢
      go_wp2_with fail
      (with_reducible refine (HCK _ (HS.out.next HB.out)).out.mono ?_); rintro e w4 ⟨rfl, hb⟩
      replace HB := hid (below_next HB.out hb)
      replace HV3 := hid (HV3.out.next hb)
      replace HV4 := hid (HV4.out.next hb)
      clear hb
      obtain ⟨x0, x1, xf⟩ := HV3.out.read2
      obtain ⟨y0, y1, yf⟩ := HV4.out.read2
      go_wp2_with fail
      go_ret
      exact ⟨rfl, HB.out⟩
    case neg =>
      have hp : 0 < n := by rw [hn]; exact List.length_pos_iff.2 h0
      have hle := chk_le h
      have HRB := fun w (h1 : Segs w A ss) => hid (rbounds_any A ss n c w hn h1 hle)
      rw [h] at HCK
      rw [show bE ss = 0 by unfold bE; rw [if_neg (by simpa using h), if_neg h0], show bB ss = rbn ss by unfold bB bE; rw [if_pos (by rw [if_neg (by simpa using h), if_neg h0]), bnds_far h (by omega)]; rfl] at HBN
      have hn0 : ((n:Int) == 0) = false := by simp; omega
      clear hn hs hm htab h h0
      generalize rbn ss = K at HBN HRB
      go_enter Tryd.func8, Tryd.ntmps8
      go_wp2_with fail
      (with_reducible refine (paths_law _ HT.out).mono ?_); rintro e w1 ⟨rfl, hb⟩
      have HB := hid hb
      clear hb
      go_wp2_with fail
      (with_reducible refine (HBN _ (HS.out.next HB.out)).out.mono ?_); rintro e w2 ⟨rfl, hb⟩
      replace HB := hid (below_next HB.out hb)
      clear hb
      have HV3 := hid ((Var.new w2 (pc K.a K.b) 36 _ rfl).alloc (.cells (pc K.c K.d) 36))
      have HV4 := hid (Var.new (w2.alloc (.cells (pc K.a K.b) 36)) (pc K.c K.d) 36 (w2.heap.size + 1) (by simp))
      replace HB := hid (below_alloc (below_alloc HB.out (.cells (pc K.a K.b) 36)) (.cells (pc K.c K.d) 36))
      go_upto_region 4 with fail
      generalize (w2.alloc _).alloc _ = w3 at HV3 HV4 HB ⊢
      go_wp2_with fail
      (with_reducible refine (HCK _ (HS.out.next HB.out)).out.mono ?_); rintro e w4 ⟨rfl, hb⟩
      replace HB := hid (below_next HB.out hb)
      replace HV3 := hid (HV3.out.next hb)
      replace HV4 := hid (HV4.out.next hb)
      clear hb
      go_wp2_with fail
      (with_reducible refine (HRB _ (HS.out.next HB.out)).out.mono ?_); rintro e w5 ⟨rfl, hb⟩
      replace HB := hid (below_next HB.out hb)
      replace HV3 := hid ((HV3.out.next hb).alloc (.cells (pc K.a K.b) 36) |>.alloc (.cells (pc K.c K.d) 36))
      replace HV4 := hid ((HV4.out.next hb).alloc (.cells (pc K.a K.b) 36) |>.alloc (.cells (pc K.c K.d) 36))
      have HV7 := hid ((Var.new w5 (pc K.a K.b) 36 _ rfl).alloc (.cells (pc K.c K.d) 36))
      have HV8 := hid (Var.new (w5.alloc (.cells (pc K.a K.b) 36)) (pc K.c K.d) 36 (w5.heap.size + 1) (by simp))
      replace HB := hid (below_alloc (below_alloc HB.out (.cells (pc K.a K.b) 36)) (.cells (pc K.c K.d) 36))
      clear hb
      go_upto_region 10 with fail
      generalize (w5.alloc _).alloc _ = w6 at HV3 HV4 HV7 HV8 HB ⊢
      obtain ⟨x0, x1, xf⟩ := HV3.out.read2
      obtain ⟨y0, y1, yf⟩ := HV4.out.read2
      obtain ⟨z0, z1, zf⟩ := HV7.out.read2
      obtain ⟨v0, v1, vf⟩ := HV8.out.read2
      go_wp2_with fail
      go_ret
      exact ⟨rfl, HB.out⟩
  case neg =>
    rw [show bE ss = chk ss by unfold bE; rw [if_pos h], show bB ss = ⟨0, 0, 0, 0⟩ by unfold bB bE; rw [if_neg (by rw [if_pos h]; exact h)]] at HBN
    have hne : (chk ss != 0) = true := by simp [h]
    have hne2 : (chk ss == 0) = false := by simp [h]
    clear hn hs hm htab h
    generalize chk ss = r at HBN HCK hne hne2
    go_enter Tryd.func8, Tryd.ntmps8
    go_wp2_with fail
    (with_reducible refine (paths_law _ HT.out).mono ?_); rintro e w1 ⟨rfl, hb⟩
    have HB := hid hb
    clear hb
    go_wp2_with fail
    (with_reducible refine (HBN _ (HS.out.next HB.out)).out.mono ?_); rintro e w2 ⟨rfl, hb⟩
    replace HB := hid (below_next HB.out hb)
    clear hb
    have HV3 := hid ((Var.new w2 (pc 0 0) 36 _ rfl).alloc (.cells (pc 0 0) 36))
    have HV4 := hid (Var.new (w2.alloc (.cells (pc 0 0) 36)) (pc 0 0) 36 (w2.heap.size + 1) (by simp))
    replace HB := hid (below_alloc (below_alloc HB.out (.cells (pc 0 0) 36)) (.cells (pc 0 0) 36))
    go_upto_region 4 with fail
    generalize (w2.alloc _).alloc _ = w3 at HV3 HV4 HB ⊢
    go_wp2_with fail
    (with_reducible refine (HCK _ (HS.out.next HB.out)).out.mono ?_); rintro e w4 ⟨rfl, hb⟩
    replace HB := hid (below_next HB.out hb)
    replace HV3 := hid (HV3.out.next hb)
    replace HV4 := hid (HV4.out.next hb)
    clear hb
    obtain ⟨x0, x1, xf⟩ := HV3.out.read2
    obtain ⟨y0, y1, yf⟩ := HV4.out.read2
    go_wp2_with fail
    go_ret
    exact ⟨rfl, HB.out⟩

set_option maxRecDepth 100000 in
theorem contract (H : Type) (enc : TypeId × Value → H) (W : World) (base : Nat) (args : Array Value) (ds gs : List (DataW H)) (before : List MemPlace)
    (hval : ∀ (j : Nat) t v, Tryd.f8.params[j]? = some t → args[j]? = some v → Value.okWide Tryd.prog W .any base t v)
    (hW : DataW.Whole enc Tryd.prog Tryd.f8.params.toList Rows.pathBoundsHoldSpec.vars false W args.toList ds gs before) (hL : laidMetH Tryd.prog Rows.pathBoundsHoldRow.laid W) :
    Calls Tryd.prog 8 args W fun e W' => ∃ v, e = .returned v ∧ Rows.pathBoundsHoldSpec.post enc Tryd.prog Tryd.f8 false true false false W args v W' := by
  have HT := table3 hL
  have hW' := hW
  obtain ⟨p, q, hA0, hV, rfl, hfz, hnd⟩ := hW
  have hA : DataW.TrodAll enc Tryd.prog W 0 (fun _ => true) true Tryd.f8.params.toList args.toList ds p := hA0
  rw [Tryd.params8] at hA hval
  obtain ⟨v0, vs0, d0, ds0, p0, q0, hargs, rfl, rfl, h0, r0⟩ := trodAll_cons hA
  obtain ⟨rfl, rfl, rfl⟩ := trodAll_nil r0
  obtain rfl : args = #[v0] := by cases args; simp_all
  obtain ⟨rfl, rfl⟩ := trodVars_none hV
  have k0 := h0
  have lt0 : ∀ x ∈ p0, x.block < W.heap.size := by obtain ⟨m, hm⟩ := k0; exact DataW.trod_lt m _ _ _ hm
  obtain ⟨A0, n0, c0, ss0, rfl, hn0, hs0, hm0⟩ := open_segs Tryd.underlying22 Tryd.underlying32 (by kernel_rfl) (by kernel_rfl) (by kernel_rfl) (hval 0 22 v0 rfl rfl) h0
  clear hA0
  refine (rest A0 n0 c0 ss0 W hn0 hs0 hm0 HT).mono fun e W' ⟨he, bel⟩ => ?_
  subst he
  exact ⟨_, rfl, _, _, _, [], _, [], hW', trodAll_mk1 (shut_bool Tryd.underlying4 _), (trodAll_cons_mk (Below.trod laidOut (by kernel_rfl) (of_decide_eq_true (by kernel_rfl)) k0 bel lt0) trodAll_mk0), rfl, bel.frame _, fun h => by cases h⟩

theorem reads (os : Os) {H : Type} (enc : TypeId × Value → H) : ∃ places, DataW.whole enc Tryd.prog ((laidWorld os).forCall (fun _ _ => 0) ⟨#[], #[.slice none 0 0], []⟩).memory Tryd.f8.params.toList Rows.pathBoundsHoldSpec.vars false (#[.slice none 0 0] : Array Value).toList 8 = some ([.nil], [], places) :=
  ⟨[], by kernel_rfl⟩

set_option maxRecDepth 100000 in
theorem lifted (os : Os) (started : os.Started) (H : Type) (enc : TypeId × Value → H) (F : Stop.Interp) :
    ReturnsInHanded {} Tryd.checked os 8 .any ((OpenSpec.ofChange Rows.pathBoundsHoldSpec).preRow enc Tryd.prog Tryd.f8 Rows.pathBoundsHoldRow.domain false Rows.pathBoundsHoldRow.laid) (((OpenSpec.ofChange Rows.pathBoundsHoldSpec).at F).post enc Tryd.prog Tryd.f8 false true false false) := by
  obtain ⟨places, hx⟩ := reads os enc
  refine returnsInHanded_of_row (C := Tryd.checked) (s := OpenSpec.ofChange Rows.pathBoundsHoldSpec) own started (by kernel_rfl) Tryd.func8
    (witness_row_at (enc := enc) (C := Tryd.checked) false (laidWorld os) #[.slice none 0 0] rfl (by kernel_rfl) (by kernel_rfl) (by kernel_rfl)
      (OpenSpec.preRow_of_cond 8 hx (by kernel_rfl) (fun k hk => by cases hk) (by kernel_rfl) (laid_met os _))) ?_
  intro W base args ds gs before hval hW _ _ _ hL _ _
  exact contract H enc W base args ds gs before hval hW hL

theorem said : Rows.PathBoundsHoldSaid :=
  OpenClaim.holds_of_cond 8 Tryd.f8 rfl rfl rfl rfl rfl rfl rfl ⟨rfl, rfl, rfl, rfl, rfl⟩ rfl rfl rfl rfl rfl (by kernel_rfl) Tryd.func8 (by kernel_rfl)
    (of_decide_eq_true (by kernel_rfl)) (by unfold Func.isWrapper; first | (rw [if_pos (by decide +kernel)]; kernel_rfl) | (rw [if_neg (by decide +kernel)]; exact ⟨rfl, rfl⟩))
    (fun os started H enc _ F => by rw [OpenClaim.pre_eq_preRow]; exact lifted os started H enc F)

theorem plain (f : FuncId) (fn : Func) (hf : Tryd.pinned.checked.prog.funcNamed "printworks/printworkslaw1.PathBoundsHold" = some f) (hfn : Tryd.pinned.checked.prog.funcs[f]? = some fn) :
    true = Tryd.pinned.checked.prog.looks [] ∧ ∀ (j : Nat) t, fn.params[j]? = some t → Tryd.pinned.checked.prog.wantsStandIn t = false := by
  obtain rfl : f = 8 := Option.some.inj ((show Tryd.prog.funcNamed "printworks/printworkslaw1.PathBoundsHold" = some 8 by kernel_rfl).symm.trans hf) |>.symm
  obtain rfl : fn = Tryd.f8 := (Option.some.inj (Tryd.func8.symm.trans hfn)).symm
  refine ⟨by kernel_rfl, fun j t ht => ?_⟩
  have h := Array.all_eq_true_iff_forall_mem.1 (show (Tryd.f8.params.all fun t => !(Tryd.prog.wantsStandIn t)) = true by kernel_rfl) t (Array.mem_of_getElem? ht)
  exact (Bool.not_eq_true' _).mp h

/-- The statement's card. -/
theorem proved : Rows.PathBoundsHoldCardSaid :=
  Claim7.holds_tied_plain_at .later [] _ _ _ _ said (fun _ h => by cases h) (by kernel_rfl) (fun _ h => by cases h) pathBoundsHold_row_tie rfl ⟨rfl, rfl⟩ (by kernel_rfl) rfl plain (by kernel_rfl)
end Go.Proofs.YtbdpjdhnmllkiaaDoor.pathBoundsHold
