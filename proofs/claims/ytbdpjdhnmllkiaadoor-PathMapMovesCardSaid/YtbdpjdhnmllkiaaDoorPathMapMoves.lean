/- A shift of package path moves the bounds of a path, and the opposite shift moves them back. -/
import Derived.WalkKit
import Derived.ProofKit
import Derived.OpenShut
import Derived.ChangeOld
import Derived.Below
import Derived.Test.YtbdpjdhnmllkiaaDoorLaid
import Derived.Test.YtbdpjdhnmllkiaaDoorPaths
import Derived.Test.YtbdpjdhnmllkiaaDoorMov
namespace Go.Proofs.YtbdpjdhnmllkiaaDoor.pathMapMoves
open Go Go.ChangeShapes Go.WideShapes Go.ChangeAt Go.RowKit Go.Deep
set_option linter.unusedVariables false

abbrev P41 (x y : Int) : Array Value := #[.int .i64 4096, .int .i64 0, .int .i64 0, .int .i64 4096, .int .i64 (4096 * x), .int .i64 (4096 * y)]
set_option maxHeartbeats 6400000 in
set_option maxRecDepth 100000 in
theorem rest (A : Option Addr) (n c : Nat) (ss : List Sg) (x1 x2 : Int) (W : World) (hn : n = ss.length) (hs : Segs W A ss) (hm : ss.length ≤ maxLen) (hx1 : -9223372036854775808 ≤ x1 ∧ x1 ≤ 9223372036854775807) (hx2 : -9223372036854775808 ≤ x2 ∧ x2 ≤ 9223372036854775807) (htab : Tab W) :
    Calls Tryd.prog 5 #[.slice A n c, .int .i64 x1, .int .i64 x2] W fun e W' => e = .returned (.bool true) ∧ Below W.heap.size W W' := by
  have HT := hid htab
  have HS := hid hs
  have HL := hid hm
  have HN := hid hn
  clear hs hm htab hn
  go_enter Tryd.func5, Tryd.ntmps5
  go_wp2_with fail
  (with_reducible refine (paths_keep _ HT.out).mono ?_); rintro e w1 ⟨rfl, hb⟩
  have HB := hid hb
  clear hb
  go_wp2_with fail
  (with_reducible refine (Af.cut_in x1 (-3000) 3000 _ (by omega) (by omega) (by omega) (by omega)).mono ?_); rintro e w2 ⟨dx, d1, d2, rfl, rfl⟩
  go_wp2_with fail
  (with_reducible refine (Af.cut_in x2 (-3000) 3000 _ (by omega) (by omega) (by omega) (by omega)).mono ?_); rintro e w2 ⟨dy, d3, d4, rfl, rfl⟩
  have HD := hid (show Sml dx dy from ⟨⟨d1, d2⟩, ⟨d3, d4⟩⟩)
  go_wp2_with fail
  (with_reducible refine (shift_sml dx dy _ HD.out).mono ?_); rintro e w2 ⟨rfl, hb⟩
  replace HB := hid (below_next HB.out hb)
  have HV7 := hid (Var.new w2 (P41 dx dy) 41 _ rfl)
  have HX := hid (below_alloc (Below.refl _ w2) (.cells (P41 dx dy) 41))
  clear hb
  go_upto_region 5 with fail
  generalize w2.alloc _ = w3 at HV7 HX ⊢
  replace HB := hid (below_next HB.out HX.out)
  clear HX
  go_wp2_with fail
  (with_reducible refine (shift_sml (-dx) (-dy) _ HD.out.neg).mono ?_); rintro e w4 ⟨rfl, hb⟩
  replace HB := hid (below_next HB.out hb)
  replace HV7 := hid ((HV7.out.next hb).alloc (.cells (P41 (-dx) (-dy)) 41))
  have HV9 := hid (Var.new w4 (P41 (-dx) (-dy)) 41 _ rfl)
  have HX := hid (below_alloc (Below.refl _ w4) (.cells (P41 (-dx) (-dy)) 41))
  clear hb
  go_upto_region 6 with fail
  generalize w4.alloc _ = w5 at HV7 HV9 HX ⊢
  replace HB := hid (below_next HB.out HX.out)
  clear HX
  obtain ⟨q0, q1, q2, q3, q4, q5, qf⟩ := HV7.out.read6
  go_wp2_with fail
  clear q0 q1 q2 q3 q4 q5 qf
  (with_reducible refine (map_sh A ss n c dx dy _ HN.out (HS.out.next HB.out)).mono ?_); rintro e w6 ⟨⟨A2, n2, c2, rfl, hn2, hs2⟩, hb⟩
  replace HB := hid (below_next HB.out hb)
  replace HV9 := hid (HV9.out.next hb)
  have HN2 := hid hn2
  have HS2 := hid hs2
  clear hb HV7 hn2 hs2
  have HC := fun w1 (h : Segs w1 A ss) => hid (check_any A ss n c w1 HN.out fun _ => h)
  by_cases hok : chk ss = 0
  case neg =>
    have eE : mE (shm dx dy) ss = chk ss := by unfold mE; rw [if_pos hok]
    rw [eE]
    have hne : (chk ss != 0) = true := by simp [hok]
    clear hok eE HD HN2 HS2
    generalize chk ss = r at HC hne ⊢
    go_wp2_with fail
    (with_reducible refine (HC _ (HS.out.next HB.out)).out.mono ?_); rintro e w7 ⟨rfl, hb⟩
    replace HB := hid (below_next HB.out hb)
    clear hb
    go_wp2_with fail
    go_ret
    exact ⟨rfl, HB.out⟩
  case pos =>
    rw [hok] at HC
    rcases moves HD.out hok with G | h10
    case inr =>
      rw [h10]
      clear h10 HN2 HS2 hok HD
      go_wp2_with fail
      (with_reducible refine (HC _ (HS.out.next HB.out)).out.mono ?_); rintro e w7 ⟨rfl, hb⟩
      replace HB := hid (below_next HB.out hb)
      clear hb
      go_wp2_with fail
      go_ret
      exact ⟨rfl, HB.out⟩
    case inl =>
      have HG := hid G
      rw [G.e1]
      rw [G.s1] at HN2 HS2
      clear G
      by_cases h0 : n = 0
      case pos =>
        subst h0
        go_wp2_with fail
        (with_reducible refine (HC _ (HS.out.next HB.out)).out.mono ?_); rintro e w7 ⟨rfl, hb⟩
        replace HB := hid (below_next HB.out hb)
        clear hb
        go_wp2_with fail
        go_ret
        exact ⟨rfl, HB.out⟩
      case neg =>
        have hn0 : ((n:Int) == 0) = false := by simp [h0]
        obtain ⟨b1, b2, b3, b4, b5⟩ := HG.out.b (by have := HN.out; omega)
        have HP := fun w1 (h : Segs w1 A ss) => hid (bounds_any A ss n c w1 HN.out h)
        have HQ := fun w1 (h : Segs w1 A2 (ss.map (sh dx dy))) => hid (bounds_any A2 (ss.map (sh dx dy)) n2 c2 w1 HN2.out h)
        rw [b1, b3] at HP
        rw [b2, b4] at HQ
        have HM := fun w1 (h : Segs w1 A2 (ss.map (sh dx dy))) => hid (map_sh A2 (ss.map (sh dx dy)) n2 c2 (-dx) (-dy) w1 HN2.out h)
        rw [HG.out.e2, HG.out.s2] at HM
        obtain ⟨⟨⟨i1, i2⟩, ⟨i3, i4⟩⟩, ⟨⟨i5, i6⟩, ⟨i7, i8⟩⟩⟩ := b5
        clear b1 b2 b3 b4 HG HC h0 hok
        generalize bnds ss = K at HP HQ i1 i2 i3 i4 i5 i6 i7 i8
        generalize ss.map (sh dx dy) = qs at HN2 HS2 HQ HM
        obtain ⟨q0, q1, q2, q3, q4, q5, qf⟩ := HV9.out.read6
        go_wp2_with fail
        clear q0 q1 q2 q3 q4 q5 qf
        (with_reducible refine (HM _ HS2.out).out.mono ?_); rintro e w7 ⟨⟨A3, n3, c3, rfl, hn3, hs3⟩, hb⟩
        have HN3 := hid hn3
        have HS3 := hid hs3
        replace HB := hid (below_next HB.out hb)
        replace HS2 := hid (HS2.out.next hb)
        clear hb hn3 hs3 HV9
        go_wp2_with fail
        (with_reducible refine (HP _ (HS.out.next HB.out)).out.mono ?_); rintro e w8 ⟨rfl, hb⟩
        replace HB := hid (below_next HB.out hb)
        replace HS2 := hid (HS2.out.next hb)
        replace HS3 := hid (HS3.out.next hb)
        clear hb
        have HV14 := hid ((Var.new w8 (pc K.a K.b) 36 _ rfl).alloc (.cells (pc K.c K.d) 36))
        have HV15 := hid (Var.new (w8.alloc (.cells (pc K.a K.b) 36)) (pc K.c K.d) 36 (w8.heap.size + 1) (by simp))
        have HX := hid (below_alloc (below_alloc (Below.refl _ w8) (.cells (pc K.a K.b) 36)) (.cells (pc K.c K.d) 36))
        go_upto_region 11 with fail
        generalize (w8.alloc _).alloc _ = w9 at HV14 HV15 HX ⊢
        replace HB := hid (below_next HB.out HX.out)
        replace HS2 := hid (HS2.out.next HX.out)
        replace HS3 := hid (HS3.out.next HX.out)
        clear HX
        go_wp2_with fail
        (with_reducible refine (HQ _ HS2.out).out.mono ?_); rintro e w10 ⟨rfl, hb⟩
        replace HB := hid (below_next HB.out hb)
        replace HS3 := hid (HS3.out.next hb)
        replace HV14 := hid (((HV14.out.next hb).alloc (.cells (pc (K.sh dx dy).a (K.sh dx dy).b) 36)).alloc (.cells (pc (K.sh dx dy).c (K.sh dx dy).d) 36))
        replace HV15 := hid (((HV15.out.next hb).alloc (.cells (pc (K.sh dx dy).a (K.sh dx dy).b) 36)).alloc (.cells (pc (K.sh dx dy).c (K.sh dx dy).d) 36))
        clear hb HS2
        have HV17 := hid ((Var.new w10 (pc (K.sh dx dy).a (K.sh dx dy).b) 36 _ rfl).alloc (.cells (pc (K.sh dx dy).c (K.sh dx dy).d) 36))
        have HV18 := hid (Var.new (w10.alloc (.cells (pc (K.sh dx dy).a (K.sh dx dy).b) 36)) (pc (K.sh dx dy).c (K.sh dx dy).d) 36 (w10.heap.size + 1) (by simp))
        have HX := hid (below_alloc (below_alloc (Below.refl _ w10) (.cells (pc (K.sh dx dy).a (K.sh dx dy).b) 36)) (.cells (pc (K.sh dx dy).c (K.sh dx dy).d) 36))
        go_upto_region 12 with fail
        generalize (w10.alloc _).alloc _ = w11 at HV14 HV15 HV17 HV18 HX ⊢
        replace HB := hid (below_next HB.out HX.out)
        replace HS3 := hid (HS3.out.next HX.out)
        clear HX
        go_wp2_with fail
        (with_reducible refine (equal_yes A A3 ss _ _ c c3 _ HN.out HN3.out (HS.out.next HB.out) HS3.out HL.out).mono ?_); rintro e w12 ⟨rfl, hb⟩
        replace HB := hid (below_next HB.out hb)
        obtain ⟨s0, s1, sf⟩ := (HV14.out.next hb).read2
        obtain ⟨y0, y1, yf⟩ := (HV15.out.next hb).read2
        obtain ⟨z0, z1, zf⟩ := (HV17.out.next hb).read2
        obtain ⟨v0, v1, vf⟩ := (HV18.out.next hb).read2
        have e1 : (K.sh dx dy).a = K.a + dx := rfl
        have e2 : (K.sh dx dy).b = K.b + dy := rfl
        have e3 : (K.sh dx dy).c = K.c + dx := rfl
        have e4 : (K.sh dx dy).d = K.d + dy := rfl
        rw [e1] at z0
        rw [e2] at z1
        rw [e3] at v0
        rw [e4] at v1
        clear hb e1 e2 e3 e4 HV14 HV15 HV17 HV18
        go_wp2_with fail
        go_ret
        exact ⟨rfl, HB.out⟩

set_option maxRecDepth 100000 in
theorem contract (H : Type) (enc : TypeId × Value → H) (W : World) (base : Nat) (args : Array Value) (ds gs : List (DataW H)) (before : List MemPlace)
    (hval : ∀ (j : Nat) t v, Tryd.f5.params[j]? = some t → args[j]? = some v → Value.okWide Tryd.prog W .any base t v)
    (hW : DataW.Whole enc Tryd.prog Tryd.f5.params.toList Rows.pathMapMovesSpec.vars false W args.toList ds gs before) (hL : laidMetH Tryd.prog Rows.pathMapMovesRow.laid W) :
    Calls Tryd.prog 5 args W fun e W' => ∃ v, e = .returned v ∧ Rows.pathMapMovesSpec.post enc Tryd.prog Tryd.f5 false true false false W args v W' := by
  have HT := table3 hL
  have hW' := hW
  obtain ⟨p, q, hA0, hV, rfl, hfz, hnd⟩ := hW
  have hA : DataW.TrodAll enc Tryd.prog W 0 (fun _ => true) true Tryd.f5.params.toList args.toList ds p := hA0
  rw [Tryd.params5] at hA hval
  obtain ⟨v0, vs0, d0, ds0, p0, q0, hargs, rfl, rfl, h0, r0⟩ := trodAll_cons hA
  obtain ⟨v1, vs1, d1, ds1, p1, q1, rfl, rfl, rfl, h1, r1⟩ := trodAll_cons r0
  obtain ⟨v2, vs2, d2, ds2, p2, q2, rfl, rfl, rfl, h2, r2⟩ := trodAll_cons r1
  obtain ⟨rfl, rfl, rfl⟩ := trodAll_nil r2
  obtain rfl : args = #[v0, v1, v2] := by cases args; simp_all
  obtain ⟨rfl, rfl⟩ := trodVars_none hV
  have k0 := h0
  have lt0 : ∀ x ∈ p0, x.block < W.heap.size := by obtain ⟨m, hm⟩ := k0; exact DataW.trod_lt m _ _ _ hm
  obtain ⟨A0, n0, c0, ss0, rfl, hn0, hs0, hm0⟩ := open_segs Tryd.underlying22 Tryd.underlying32 (by kernel_rfl) (by kernel_rfl) (by kernel_rfl) (hval 0 22 v0 rfl rfl) h0
  obtain ⟨x1, rfl, rfl, rfl, w1⟩ := open_int Tryd.underlying3 (hval 1 3 v1 rfl rfl) h1
  obtain ⟨x2, rfl, rfl, rfl, w2⟩ := open_int Tryd.underlying3 (hval 2 3 v2 rfl rfl) h2
  clear hA0
  refine (rest A0 n0 c0 ss0 x1 x2 W hn0 hs0 hm0 (i64_wf w1) (i64_wf w2) HT).mono fun e W' ⟨he, bel⟩ => ?_
  subst he
  exact ⟨_, rfl, _, _, _, [], _, [], hW', trodAll_mk1 (shut_bool Tryd.underlying4 _), (trodAll_cons_mk (Below.trod laidOut (by kernel_rfl) (of_decide_eq_true (by kernel_rfl)) k0 bel lt0) (trodAll_cons_mk (shut_int Tryd.underlying3 w1) (trodAll_cons_mk (shut_int Tryd.underlying3 w2) trodAll_mk0))), rfl, bel.frame _, fun h => by cases h⟩

theorem reads (os : Os) {H : Type} (enc : TypeId × Value → H) : ∃ places, DataW.whole enc Tryd.prog ((laidWorld os).forCall (fun _ _ => 0) ⟨#[], #[.slice none 0 0, .int .i64 0, .int .i64 0], []⟩).memory Tryd.f5.params.toList Rows.pathMapMovesSpec.vars false (#[.slice none 0 0, .int .i64 0, .int .i64 0] : Array Value).toList 8 = some ([.nil, .lit (.int .i64 0), .lit (.int .i64 0)], [], places) :=
  ⟨[], by kernel_rfl⟩

set_option maxRecDepth 100000 in
theorem lifted (os : Os) (started : os.Started) (H : Type) (enc : TypeId × Value → H) (F : Stop.Interp) :
    ReturnsInHanded {} Tryd.checked os 5 .any ((OpenSpec.ofChange Rows.pathMapMovesSpec).preRow enc Tryd.prog Tryd.f5 Rows.pathMapMovesRow.domain false Rows.pathMapMovesRow.laid) (((OpenSpec.ofChange Rows.pathMapMovesSpec).at F).post enc Tryd.prog Tryd.f5 false true false false) := by
  obtain ⟨places, hx⟩ := reads os enc
  refine returnsInHanded_of_row (C := Tryd.checked) (s := OpenSpec.ofChange Rows.pathMapMovesSpec) own started (by kernel_rfl) Tryd.func5
    (witness_row_at (enc := enc) (C := Tryd.checked) false (laidWorld os) #[.slice none 0 0, .int .i64 0, .int .i64 0] rfl (by kernel_rfl) (by kernel_rfl) (by kernel_rfl)
      (OpenSpec.preRow_of_cond 8 hx (by kernel_rfl) (fun k hk => by cases hk) (by kernel_rfl) (laid_met os _))) ?_
  intro W base args ds gs before hval hW _ _ _ hL _ _
  exact contract H enc W base args ds gs before hval hW hL

theorem said : Rows.PathMapMovesSaid :=
  OpenClaim.holds_of_cond 5 Tryd.f5 rfl rfl rfl rfl rfl rfl rfl ⟨rfl, rfl, rfl, rfl, rfl⟩ rfl rfl rfl rfl rfl (by kernel_rfl) Tryd.func5 (by kernel_rfl)
    (of_decide_eq_true (by kernel_rfl)) (by unfold Func.isWrapper; first | (rw [if_pos (by decide +kernel)]; kernel_rfl) | (rw [if_neg (by decide +kernel)]; exact ⟨rfl, rfl⟩))
    (fun os started H enc _ F => by rw [OpenClaim.pre_eq_preRow]; exact lifted os started H enc F)

theorem plain (f : FuncId) (fn : Func) (hf : Tryd.pinned.checked.prog.funcNamed "printworks/printworkskeep1.PathMapMoves" = some f) (hfn : Tryd.pinned.checked.prog.funcs[f]? = some fn) :
    true = Tryd.pinned.checked.prog.looks [] ∧ ∀ (j : Nat) t, fn.params[j]? = some t → Tryd.pinned.checked.prog.wantsStandIn t = false := by
  obtain rfl : f = 5 := Option.some.inj ((show Tryd.prog.funcNamed "printworks/printworkskeep1.PathMapMoves" = some 5 by kernel_rfl).symm.trans hf) |>.symm
  obtain rfl : fn = Tryd.f5 := (Option.some.inj (Tryd.func5.symm.trans hfn)).symm
  refine ⟨by kernel_rfl, fun j t ht => ?_⟩
  have h := Array.all_eq_true_iff_forall_mem.1 (show (Tryd.f5.params.all fun t => !(Tryd.prog.wantsStandIn t)) = true by kernel_rfl) t (Array.mem_of_getElem? ht)
  exact (Bool.not_eq_true' _).mp h

/-- The statement's card. -/
theorem proved : Rows.PathMapMovesCardSaid :=
  Claim7.holds_tied_plain_at .later [] _ _ _ _ said (fun _ h => by cases h) (by kernel_rfl) (fun _ h => by cases h) pathMapMoves_row_tie rfl ⟨rfl, rfl⟩ (by kernel_rfl) rfl plain (by kernel_rfl)
end Go.Proofs.YtbdpjdhnmllkiaaDoor.pathMapMoves
