/- The law PathParseDamaged of stage 4 holds: a text of a path of 1 to 100 segments with one byte changed is read, or refused, as the reference says. -/
import Derived.WalkKit
import Derived.ProofKit
import Derived.OpenShut
import Derived.ChangeOld
import Derived.Below
import Derived.ChangeMaps5
import Derived.Test.YtijkoaggcmgjiabDoorLaid7
import Derived.Test.YtijkoaggcmgjiabDoorLaid7
import Derived.Test.YtijkoaggcmgjiabDoorPaths
import Derived.Test.YtijkoaggcmgjiabDoorRPar
import Derived.Test.YtijkoaggcmgjiabDoorRText
import Derived.Test.YtijkoaggcmgjiabDoorCnv
namespace Go.Proofs.YtijkoaggcmgjiabDoor.pathParseDamaged
open Go Go.ChangeMaps Go.ChangeShapes Go.WideShapes Go.ChangeAt Go.RowKit Go.Deep
set_option linter.unusedVariables false

set_option maxHeartbeats 3200000 in
theorem rest (A : Option Addr) (n c : Nat) (ss : List Sg) (x b : Int) (W : World) (hn : n = ss.length) (hs : Segs W A ss) (hm : ss.length ≤ maxLen) (hx : -9223372036854775808 ≤ x ∧ x ≤ 9223372036854775807) (hb : 0 ≤ b ∧ b ≤ 255) (he : Env W) :
    Calls Tryd.prog 3 #[.slice A n c, .int .i64 x, .int .u8 b] W fun e W' => e = .returned (.bool true) ∧ Below W.heap.size W W' := by
  have HE := hid he
  have HK := fun w (h : Env w) => hid (paths_law w h.tab)
  have HS := hid hs
  have HCK := fun w (h1 : Segs w A ss) => hid (rcheck_any A ss n c w hn fun _ => h1)
  unfold maxLen at hm
  clear he hs
  have hnl : (n : Int) ≤ 9223372036854775807 := by omega
  by_cases h100 : n ≤ 100
  · have g100 : ¬ (100 : Int) < (n : Int) := by omega
    by_cases hc : chk ss = 0
    · by_cases h0 : n = 0
      · have g0 : ((n : Int) == 0) = true := by simp [h0]
        rw [hc] at HCK
        clear hc h0 hn
        go_enter Tryd.func3, Tryd.ntmps3
        go_wp2_with fail
        (with_reducible refine (HK _ HE.out).out.mono ?_); rintro e w1 ⟨rfl, hbw⟩
        have HB := hid hbw
        clear hbw
        go_wp2_with fail
        (with_reducible refine (HCK _ (HS.out.next HB.out)).out.mono ?_); rintro e w2 ⟨rfl, hbw⟩
        replace HB := hid (below_next HB.out hbw)
        clear hbw
        go_wp2_with fail
        go_ret
        exact ⟨rfl, HB.out⟩
      · have g0 : ((n : Int) == 0) = false := by simp [h0]
        have hne : ss ≠ [] := fun e => h0 (by rw [hn, e]; rfl)
        have hl0 := textOf_pos hne
        have hl1 : (textOf ss).length ≤ 11200 := by
          have := textOf_length ss fun s hs => (chk_okay hc s hs).fit
          omega
        have HRT := fun w (h1 : Segs w A ss) => hid (rtext_any A ss n c w hn h1 (by omega) (chk_okay hc))
        rw [hc] at HCK
        clear hc h0 hne hn
        generalize textOf ss = l at HRT hl0 hl1
        go_enter Tryd.func3, Tryd.ntmps3
        go_wp2_with fail
        (with_reducible refine (HK _ HE.out).out.mono ?_); rintro e w1 ⟨rfl, hbw⟩
        have HB := hid hbw
        clear hbw
        go_wp2_with fail
        (with_reducible refine (HCK _ (HS.out.next HB.out)).out.mono ?_); rintro e w2 ⟨rfl, hbw⟩
        replace HB := hid (below_next HB.out hbw)
        clear hbw
        go_wp2_with fail
        (with_reducible refine (HRT _ (HS.out.next HB.out)).out.mono ?_); rintro e w3 ⟨rfl, hbw⟩
        replace HB := hid (below_next HB.out hbw)
        clear hbw
        obtain ⟨cb, W4, hcv, hblk, hbel⟩ := to_bytes w3 l
        have HG := hid (show W.heap.size ≤ w3.heap.size from HB.out.size)
        replace HB := hid (below_next HB.out hbel)
        have HBK := hid hblk
        clear hbel hblk
        have hll : (l.length : Int) ≤ 11200 := by omega
        have hl2 : (1 : Int) ≤ (l.length : Int) := by omega
        have HPC := hid (pcut_in x l.length W4 hl0 (by omega))
        obtain ⟨g, hg⟩ : ∃ g, g = w3.heap.size := ⟨_, rfl⟩
        rw [← hg] at hcv HBK HG
        clear hg
        go_wp2_with fail
        (with_reducible refine HPC.out.mono ?_); rintro e w5 ⟨⟨i, hi, rfl⟩, rfl⟩
        have hil : (i : Int) < (l.length : Int) := by omega
        have hi0 : (0 : Int) ≤ (i : Int) := Int.natCast_nonneg _
        have ci := HBK.out.c i hi
        have fi := HBK.out.f i hi
        have hset := HBK.out.set hi (UInt8.ofNat b.toNat)
        rw [store_bd hb] at hset
        have hback := of_bytes hset cb
        rw [List.length_set] at hback
        have HBX := hid hset
        have hsz : (S (l.set i (UInt8.ofNat b.toNat))).size ≤ 40000 := by rw [S_size, List.length_set]; omega
        have HLS := hid (show (l.set i (UInt8.ofNat b.toNat)).length = l.length from List.length_set ..)
        have HP := fun w (h1 : Env w) => hid (parse_any (S (l.set i (UInt8.ofNat b.toNat))) w hsz h1)
        have HR := fun w => hid (rparse_any (S (l.set i (UInt8.ofNat b.toNat))) w hsz)
        have HM := hid (show (pS (S (l.set i (UInt8.ofNat b.toNat)))).length ≤ maxLen by have := pS_len (S (l.set i (UInt8.ofNat b.toNat))); unfold maxLen; omega)
        have HB5 := hid (show Below W.heap.size W (W4.setCell ⟨g, i, none⟩ (.int .u8 b)) from HB.out.setCell (p := ⟨g, i, none⟩) HG.out _)
        generalize (l.set i (UInt8.ofNat b.toNat)) = l2 at hback HBX HP HR HM HLS
        generalize hZ : ((l[i]'hi).toNat : Int) = z0 at ci
        clear hZ hsz hset HBK HB hb HPC hcv hi
        obtain ⟨W5, hW5⟩ : ∃ W5, W5 = W4.setCell ⟨g, i, none⟩ (.int .u8 b) := ⟨_, rfl⟩
        rw [← hW5] at hback HBX HB5
        go_upto_region 7 with fail
        rw [← hW5]
        clear hW5
        go_wp2_with fail
        (with_reducible refine (HP _ (HE.out.next HB5.out)).out.mono ?_); rintro e w6 ⟨⟨A3, n3, c3, rfl, hn3, hs3⟩, hbw⟩
        have HN3 := hid hn3
        have HS3 := hid hs3
        have hback2 := of_bytes (HBX.out.next hbw) cb
        rw [HLS.out] at hback2
        have HB6 := hid (below_next HB5.out hbw)
        clear hbw hn3 hs3 hback
        generalize pS (S l2) = ps at HS3 HN3 HR HM
        generalize pE (S l2) = pe at HR
        go_wp2_with fail
        (with_reducible refine (HR _).out.mono ?_); rintro e w7 ⟨⟨A4, n4, c4, rfl, hn4, hs4⟩, hbw⟩
        have HN4 := hid hn4
        have HS4 := hid hs4
        replace HS3 := hid (HS3.out.next hbw)
        replace HB6 := hid (below_next HB6.out hbw)
        clear hbw hn4 hs4 hback2
        go_wp2_with fail
        (with_reducible refine (same_yes A3 A4 ps _ _ c3 c4 _ HN3.out HN4.out HS3.out HS4.out HM.out).mono ?_); rintro e w8 ⟨rfl, hbw⟩
        replace HB6 := hid (below_next HB6.out hbw)
        clear hbw
        go_wp2_with fail
        go_ret
        exact ⟨rfl, HB6.out⟩
    · have gne : (chk ss != 0) = true := by simpa using hc
      clear hc hn
      generalize chk ss = r at HCK gne
      go_enter Tryd.func3, Tryd.ntmps3
      go_wp2_with fail
      (with_reducible refine (HK _ HE.out).out.mono ?_); rintro e w1 ⟨rfl, hbw⟩
      have HB := hid hbw
      clear hbw
      go_wp2_with fail
      (with_reducible refine (HCK _ (HS.out.next HB.out)).out.mono ?_); rintro e w2 ⟨rfl, hbw⟩
      replace HB := hid (below_next HB.out hbw)
      clear hbw
      go_wp2_with fail
      go_ret
      exact ⟨rfl, HB.out⟩
  · have g100 : (100 : Int) < (n : Int) := by omega
    clear HCK hn
    go_enter Tryd.func3, Tryd.ntmps3
    go_wp2_with fail
    (with_reducible refine (HK _ HE.out).out.mono ?_); rintro e w1 ⟨rfl, hbw⟩
    have HB := hid hbw
    clear hbw
    go_wp2_with fail
    go_ret
    exact ⟨rfl, HB.out⟩

set_option maxRecDepth 100000 in
theorem contract (H : Type) (enc : TypeId × Value → H) (W : World) (base : Nat) (args : Array Value) (ds gs : List (DataW H)) (before : List MemPlace)
    (hval : ∀ (j : Nat) t v, Tryd.f3.params[j]? = some t → args[j]? = some v → Value.okWide Tryd.prog W .any base t v)
    (hW : DataW.Whole enc Tryd.prog Tryd.f3.params.toList Rows.pathParseDamagedSpec.vars false W args.toList ds gs before) (hL : laidMetH Tryd.prog Rows.pathParseDamagedRow.laid W) (hsh : W.ShapedOpen Tryd.prog) :
    Calls Tryd.prog 3 args W fun e W' => ∃ v, e = .returned v ∧ Rows.pathParseDamagedSpec.post enc Tryd.prog Tryd.f3 false true false false W args v W' := by
  have HT := env7 hL hsh
  have hW' := hW
  obtain ⟨p, q, hA0, hV, rfl, hfz, hnd⟩ := hW
  have hA : DataW.TrodAll enc Tryd.prog W 0 (fun _ => true) true Tryd.f3.params.toList args.toList ds p := hA0
  rw [Tryd.params3] at hA hval
  obtain ⟨v0, vs0, d0, ds0, p0, q0, hargs, rfl, rfl, h0, r0⟩ := trodAll_cons hA
  obtain ⟨v1, vs1, d1, ds1, p1, q1, rfl, rfl, rfl, h1, r1⟩ := trodAll_cons r0
  obtain ⟨v2, vs2, d2, ds2, p2, q2, rfl, rfl, rfl, h2, r2⟩ := trodAll_cons r1
  obtain ⟨rfl, rfl, rfl⟩ := trodAll_nil r2
  obtain rfl : args = #[v0, v1, v2] := by cases args; simp_all
  obtain ⟨rfl, rfl⟩ := trodVars_none hV
  have k0 := h0
  have lt0 : ∀ x ∈ p0, x.block < W.heap.size := by obtain ⟨m, hm⟩ := k0; exact DataW.trod_lt m _ _ _ hm
  obtain ⟨A0, n0, c0, ss0, rfl, hn0, hs0, hm0⟩ := open_segs Tryd.underlying22 Tryd.underlying38 (by kernel_rfl) (by kernel_rfl) (by kernel_rfl) (hval 0 22 v0 rfl rfl) h0
  obtain ⟨x1, rfl, rfl, rfl, w1⟩ := open_int Tryd.underlying3 (hval 1 3 v1 rfl rfl) h1
  obtain ⟨x2, rfl, rfl, rfl, w2⟩ := open_int Tryd.underlying5 (hval 2 5 v2 rfl rfl) h2
  clear hA0
  refine (rest A0 n0 c0 ss0 x1 x2 W hn0 hs0 hm0 (i64_wf w1) (byte_wf w2) HT).mono fun e W' ⟨he, bel⟩ => ?_
  subst he
  exact ⟨_, rfl, _, _, _, [], _, [], hW', trodAll_mk1 (shut_bool Tryd.underlying4 _), (trodAll_cons_mk (Below.trod laidOut (by kernel_rfl) (of_decide_eq_true (by kernel_rfl)) k0 bel lt0) (trodAll_cons_mk (shut_int Tryd.underlying3 w1) (trodAll_cons_mk (shut_int Tryd.underlying5 w2) trodAll_mk0))), rfl, bel.frame _, fun h => by cases h⟩

theorem reads (os : Os) {H : Type} (enc : TypeId × Value → H) : ∃ places, DataW.whole enc Tryd.prog ((laidWorld7 os).forCall (fun _ _ => 0) ⟨#[], #[.slice none 0 0, .int .i64 0, .int .u8 0], []⟩).memory Tryd.f3.params.toList Rows.pathParseDamagedSpec.vars false (#[.slice none 0 0, .int .i64 0, .int .u8 0] : Array Value).toList 8 = some ([.nil, .lit (.int .i64 0), .lit (.int .u8 0)], [], places) :=
  ⟨[], by kernel_rfl⟩

set_option maxRecDepth 100000 in
theorem lifted (os : Os) (started : os.Started) (H : Type) (enc : TypeId × Value → H) (F : Stop.Interp) :
    ReturnsInHanded {} Tryd.checked os 3 .any ((OpenSpec.ofChange Rows.pathParseDamagedSpec).preRow enc Tryd.prog Tryd.f3 Rows.pathParseDamagedRow.domain false Rows.pathParseDamagedRow.laid) (((OpenSpec.ofChange Rows.pathParseDamagedSpec).at F).post enc Tryd.prog Tryd.f3 false true false false) := by
  obtain ⟨places, hx⟩ := reads os enc
  refine returnsInHanded_of_row (C := Tryd.checked) (s := OpenSpec.ofChange Rows.pathParseDamagedSpec) own started (by kernel_rfl) Tryd.func3
    (witness_row_at (enc := enc) (C := Tryd.checked) false (laidWorld7 os) #[.slice none 0 0, .int .i64 0, .int .u8 0] rfl (by kernel_rfl) (by kernel_rfl) (by kernel_rfl)
      (OpenSpec.preRow_of_cond 8 hx (by kernel_rfl) (fun k hk => by cases hk) (by kernel_rfl) (laid_met7 os _))) ?_
  intro W base args ds gs before hval hW _ _ _ hL hsh _
  exact contract H enc W base args ds gs before hval hW hL hsh

theorem said : Rows.PathParseDamagedSaid :=
  OpenClaim.holds_of_cond 3 Tryd.f3 rfl rfl rfl rfl rfl rfl rfl ⟨rfl, rfl, rfl, rfl, rfl⟩ rfl rfl rfl rfl rfl (by kernel_rfl) Tryd.func3 (by kernel_rfl)
    (of_decide_eq_true (by kernel_rfl)) (by unfold Func.isWrapper; first | (rw [if_pos (by decide +kernel)]; kernel_rfl) | (rw [if_neg (by decide +kernel)]; exact ⟨rfl, rfl⟩))
    (fun os started H enc _ F => by rw [OpenClaim.pre_eq_preRow]; exact lifted os started H enc F)

theorem plain (f : FuncId) (fn : Func) (hf : Tryd.pinned.checked.prog.funcNamed "printworks/printworkslaw1.PathParseDamaged" = some f) (hfn : Tryd.pinned.checked.prog.funcs[f]? = some fn) :
    true = Tryd.pinned.checked.prog.looks [] ∧ ∀ (j : Nat) t, fn.params[j]? = some t → Tryd.pinned.checked.prog.wantsStandIn t = false := by
  obtain rfl : f = 3 := Option.some.inj ((show Tryd.prog.funcNamed "printworks/printworkslaw1.PathParseDamaged" = some 3 by kernel_rfl).symm.trans hf) |>.symm
  obtain rfl : fn = Tryd.f3 := (Option.some.inj (Tryd.func3.symm.trans hfn)).symm
  refine ⟨by kernel_rfl, fun j t ht => ?_⟩
  have h := Array.all_eq_true_iff_forall_mem.1 (show (Tryd.f3.params.all fun t => !(Tryd.prog.wantsStandIn t)) = true by kernel_rfl) t (Array.mem_of_getElem? ht)
  exact (Bool.not_eq_true' _).mp h

/-- The statement's card. -/
theorem proved : Rows.PathParseDamagedCardSaid :=
  Claim7.holds_tied_plain_at .later [] _ _ _ _ said (fun _ h => by cases h) (by kernel_rfl) (fun _ h => by cases h) pathParseDamaged_row_tie rfl ⟨rfl, rfl⟩ (by kernel_rfl) rfl plain (by kernel_rfl)
end Go.Proofs.YtijkoaggcmgjiabDoor.pathParseDamaged
