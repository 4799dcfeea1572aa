/- Of the first 60 points of a slice, Of of package region returns the region of the listed cells, or the error that the document asks; for every input. -/
import Derived.Test.YtepnpnidbpaimaaRows
import Derived.WalkKit
import Derived.ProofKit
import Derived.OpenShut
import Derived.ChangeOld
import Derived.Below
import Derived.Test.YtepnpnidbpaimaaOpen
import Derived.Test.YtepnpnidbpaimaaPm
import Derived.Test.YtepnpnidbpaimaaRgn
namespace Go.Proofs.Ytepnpnidbpaimaa.regionOfPoints
open Go Go.ChangeShapes Go.WideShapes Go.ChangeAt Go.RowKit Go.Deep
set_option linter.unusedVariables false

-- caps
def OPL (ps : List P2) (P : Nat) (w4 : World) (s21 s5 : Value) (wr : World) : Prop := ∃ (j : Nat) (v : Value) (rs : List Rn), s5 = v ∧ j ≤ P ∧ s21 = .int .i64 j ∧ Hid (OwnR wr w4.heap.size v rs ∧ Below w4.heap.size w4 wr ∧ Made (ps.take j) rs ∧ ∀ q ∈ ps.take j, PIn q)

set_option maxHeartbeats 8000000 in
set_option maxRecDepth 100000 in
theorem rest (A : Option Addr) (n c : Nat) (ss : List P2) (W : World) (hn : n = ss.length) (hs : Pts W A ss) (hm : ss.length ≤ maxLen) (hc : n ≤ c ∧ c ≤ maxLen) :
    Calls Try.prog 11 #[.slice A n c] W fun e w' => e = .returned (.bool true) ∧ Below W.heap.size W w' := by
  have HS := hid hs
  have HN := hid hn
  obtain ⟨hc1, hc2⟩ := hc
  unfold maxLen at hc2
  clear hs hn hm
  by_cases h60 : 60 < n
  · obtain ⟨ps, hps⟩ : ∃ ps, ps = ss.take 60 := ⟨_, rfl⟩
    have HP := hid (show 60 = ps.length by rw [hps, List.length_take]; have := HN.out; omega)
    go_enter Try.func11, Try.ntmps11
    go_wp2_with fail
    (with_reducible refine (regions_any _).mono ?_); rintro e w1 ⟨rfl, hb⟩
    have HB1 := hid hb
    have HX := hid (show Pts w1 A ps by rw [hps]; exact (HS.out.next hb).take 60)
    clear hb hps HS HN
    go_wp2_with fail
    (with_reducible refine (of_any A ps 60 _ _ HP.out (by omega) HX.out).mono ?_); rintro e w4 ⟨v, rs, rfl, ho, hb4, hl4, hm1, hm2⟩
    obtain ⟨A3, c3, hv3, hr3⟩ := ho.is
    have HB2 := hid (below_next HB1.out hb4)
    have HX2 := hid (HX.out.next hb4)
    have HR2 := hid hr3
    have HM1 := hid hm1
    have HM2 := hid hm2
    obtain ⟨L, hL⟩ : ∃ L, L = rs.length := ⟨_, rfl⟩
    rw [← hL] at hv3
    have HL0 := hid hL
    have hL60 : L ≤ 60 := by rw [hL]; exact Nat.le_trans hl4 (by rw [← HP.out]; omega)
    obtain ⟨E, hE⟩ : ∃ E, E = ofE ps := ⟨_, rfl⟩
    have HE := hid hE
    rw [← hE]
    clear ho hb4 hl4 hm1 hm2 hr3 hL hE HB1 HX
    subst hv3
    go_wp2_with fail
    go_loopw [21, 5] (fun s21 s5 wr => OPL ps 60 w4 s21 s5 wr) (fun s21 _ _ => 60 - (intOf s21).toNat)
    case atStart => exact ⟨0, _, [], rfl, Nat.zero_le _, rfl, hid ⟨OwnR.nil _ _, Below.refl _ _, Made.nil.toMade, fun p hp => by simp at hp⟩⟩
    case round =>
      obtain ⟨j, u, out, hu, hjP, rfl, HL⟩ := hrel
      have hu' := hu.symm
      clear hu
      subst hu'
      by_cases hlt : j < 60
      · have hjl : j < ps.length := by rw [← HP.out]; exact hlt
        obtain ⟨a, rfl, hal, hsa⟩ := (HX2.out.next HL.out.2.1).at_ hjl
        have HT := hid (show ps.take (j + 1) = ps.take j ++ [ps[j]] from List.take_succ_eq_append_getElem hjl)
        have HM := hid (List.getElem_mem hjl)
        have hout : out.length ≤ 20000 := by have := made_len HL.out.2.2.1 HL.out.2.2.2; rw [List.length_take] at this; omega
        generalize ps[j] = p at hsa HT HM
        have HSA := hid hsa
        obtain ⟨c0, c1⟩ := hsa
        go_upto_region 10 with fail
        by_cases hp : PIn p
        · have hpd := hid (show true = decide (PIn ⟨p.x, p.y⟩) from (decide_eq_true hp).symm)
          go_quiet (first | (go_at_call_of 38 (Value.int IntKind.i64 p.x); exact permd_quiet hpd.out))
          clear c0 c1 hpd
          have HB3 := hid (below_drewN (Below.refl wr.heap.size wr) nq)
          generalize World.drewN wr _ = W3 at HB3 ⊢
          have HO3 := hid (HL.out.1.next HB3.out)
          have HPT := hid (HSA.out.below HB3.out (by rw [add_block]; exact hal))
          obtain ⟨c0, c1⟩ := HPT.out
          have HPI := hid hp
          obtain ⟨⟨hpx0, hpx1⟩, ⟨hpy0, hpy1⟩⟩ := hp
          have HKB := hid (show (a.add (j * 2)).block < W3.heap.size by rw [add_block]; exact Nat.lt_of_lt_of_le hal HB3.out.size)
          have e1 : IntKind.i64.wrap (p.x + 1) = p.x + 1 := IntWalk.i64_in _ (by omega)
          go_upto_region 12 with fail
          go_region_held3 (fun w' => w'.cell? (a.add (j * 2)) = some (.int .i64 p.x) ∧ w'.cell? ⟨(a.add (j * 2)).block, (a.add (j * 2)).off + 1, none⟩ = some (.int .i64 p.y))
            (first | go_keep | exact ⟨(hb5.cell (p := a.add (j * 2)) HKB.out).trans c0, (hb5.cell (p := ⟨(a.add (j * 2)).block, (a.add (j * 2)).off + 1, none⟩) HKB.out).trans c1⟩)
            (first | (go_at_call_of 37 u; refine (comb_one u out p w4.heap.size _ _ HO3.out (Nat.le_trans HL.out.2.1.size HB3.out.size) HL.out.2.2.1.ok hout HPI.out rfl).mono ?_; rintro e w5 ⟨v', res, rfl, ho5, hop5, hb5⟩))
          have HL5 := hid (show OwnR w5 w4.heap.size v' res ∧ Below w4.heap.size w4 w5 ∧ Made (ps.take (j + 1)) res ∧ ∀ q ∈ ps.take (j + 1), PIn q from ⟨ho5, (below_next HL.out.2.1 HB3.out).trans (hb5.mono (Nat.le_trans HL.out.2.1.size HB3.out.size)), by rw [HT.out]; exact made_join HL.out.2.2.1 hop5, fun q hq => by
            rw [HT.out] at hq
            rcases List.mem_append.1 hq with k | k
            · exact HL.out.2.2.2 q k
            · rw [List.mem_singleton.1 k]; exact HPI.out⟩)
          clear ho5 hop5 hb5 c0 c1 e1
          go_wp2_with fail
          go_roundw
          case rel => exact ⟨j + 1, v', res, rfl, by omega, by go_num, HL5⟩
          case measure => simp [intOf]; omega
        · have hpd := hid (show false = decide (PIn ⟨p.x, p.y⟩) from (decide_eq_false hp).symm)
          go_quiet (first | (go_at_call_of 38 (Value.int IntKind.i64 p.x); exact permd_quiet hpd.out))
          have HB3 := hid (below_next (HB2.out.trans (HL.out.2.1.mono HB2.out.size)) (below_drewN (Below.refl wr.heap.size wr) nq))
          have h3 : E = 3 := by rw [HE.out]; exact if_neg fun k => hp (k p HM.out)
          have hL0 : L = 0 := by rw [HL0.out, HM2.out (by rw [← HE.out, h3]; decide)]; rfl
          subst h3 hL0
          generalize World.drewN wr _ = W3 at HB3 ⊢
          go_wp2_with fail
          go_ret
          exact ⟨rfl, HB3.out⟩
      · have hall := hid (show ∀ p ∈ ps, PIn p from fun p hp => HL.out.2.2.2 p (by rw [List.take_of_length_le (by have := HP.out; omega)]; exact hp))
        have hmo := hid (show Made ps out by have := HL.out.2.2.1; rwa [List.take_of_length_le (by have := HP.out; omega)] at this)
        have h0 : E = 0 := by rw [HE.out]; exact if_pos hall.out
        have he := hid (made_uniq (HM1.out (by rw [← HE.out, h0])) hmo.out)
        subst h0
        obtain ⟨A6, c6, hv6, hr6⟩ := HL.out.1.is
        have HR6 := hid hr6
        obtain ⟨L6, hL6⟩ : ∃ L6, L6 = out.length := ⟨_, rfl⟩
        rw [← hL6] at hv6
        have HL6 := hid hL6
        have hLL : L6 ≤ 60 := by rw [hL6, ← he.out, ← HL0.out]; exact hL60
        have HB5 := hid (HB2.out.trans (HL.out.2.1.mono HB2.out.size))
        have HR7 := hid (HR2.out.next HL.out.2.1)
        clear hr6 hL6
        subst hv6
        go_wp2_with fail
        (with_reducible refine (same_any A3 A6 L c3 L6 c6 rs out _ HL0.out HL6.out (by unfold maxLen; omega) (by unfold maxLen; omega) HR7.out HR6.out).mono ?_); rintro e w6 ⟨rfl, hb6⟩
        rw [show decide (rs = out) = true from decide_eq_true he.out]
        have HB6 := hid (below_next HB5.out hb6)
        clear hb6
        go_wp2_with fail
        go_ret
        exact ⟨rfl, HB6.out⟩
  · obtain ⟨ps, rfl⟩ : ∃ ps, ps = ss := ⟨_, rfl⟩
    have HP := HN
    have hn60 : n ≤ 60 := by omega
    go_enter Try.func11, Try.ntmps11
    go_wp2_with fail
    (with_reducible refine (regions_any _).mono ?_); rintro e w1 ⟨rfl, hb⟩
    have HB1 := hid hb
    have HX := hid (HS.out.next hb)
    clear hb HS HN
    go_wp2_with fail
    (with_reducible refine (of_any A ps n _ _ HP.out (by omega) HX.out).mono ?_); rintro e w4 ⟨v, rs, rfl, ho, hb4, hl4, hm1, hm2⟩
    obtain ⟨A3, c3, hv3, hr3⟩ := ho.is
    have HB2 := hid (below_next HB1.out hb4)
    have HX2 := hid (HX.out.next hb4)
    have HR2 := hid hr3
    have HM1 := hid hm1
    have HM2 := hid hm2
    obtain ⟨L, hL⟩ : ∃ L, L = rs.length := ⟨_, rfl⟩
    rw [← hL] at hv3
    have HL0 := hid hL
    have hL60 : L ≤ 60 := by rw [hL]; exact Nat.le_trans hl4 (by rw [← HP.out]; omega)
    obtain ⟨E, hE⟩ : ∃ E, E = ofE ps := ⟨_, rfl⟩
    have HE := hid hE
    rw [← hE]
    clear ho hb4 hl4 hm1 hm2 hr3 hL hE HB1 HX
    subst hv3
    go_wp2_with fail
    go_loopw [21, 5] (fun s21 s5 wr => OPL ps n w4 s21 s5 wr) (fun s21 _ _ => n - (intOf s21).toNat)
    case atStart => exact ⟨0, _, [], rfl, Nat.zero_le _, rfl, hid ⟨OwnR.nil _ _, Below.refl _ _, Made.nil.toMade, fun p hp => by simp at hp⟩⟩
    case round =>
      obtain ⟨j, u, out, hu, hjP, rfl, HL⟩ := hrel
      have hu' := hu.symm
      clear hu
      subst hu'
      by_cases hlt : j < n
      · have hjl : j < ps.length := by rw [← HP.out]; exact hlt
        obtain ⟨a, rfl, hal, hsa⟩ := (HX2.out.next HL.out.2.1).at_ hjl
        have HT := hid (show ps.take (j + 1) = ps.take j ++ [ps[j]] from List.take_succ_eq_append_getElem hjl)
        have HM := hid (List.getElem_mem hjl)
        have hout : out.length ≤ 20000 := by have := made_len HL.out.2.2.1 HL.out.2.2.2; rw [List.length_take] at this; omega
        generalize ps[j] = p at hsa HT HM
        have HSA := hid hsa
        obtain ⟨c0, c1⟩ := hsa
        go_upto_region 10 with fail
        by_cases hp : PIn p
        · have hpd := hid (show true = decide (PIn ⟨p.x, p.y⟩) from (decide_eq_true hp).symm)
          go_quiet (first | (go_at_call_of 38 (Value.int IntKind.i64 p.x); exact permd_quiet hpd.out))
          clear c0 c1 hpd
          have HB3 := hid (below_drewN (Below.refl wr.heap.size wr) nq)
          generalize World.drewN wr _ = W3 at HB3 ⊢
          have HO3 := hid (HL.out.1.next HB3.out)
          have HPT := hid (HSA.out.below HB3.out (by rw [add_block]; exact hal))
          obtain ⟨c0, c1⟩ := HPT.out
          have HPI := hid hp
          obtain ⟨⟨hpx0, hpx1⟩, ⟨hpy0, hpy1⟩⟩ := hp
          have HKB := hid (show (a.add (j * 2)).block < W3.heap.size by rw [add_block]; exact Nat.lt_of_lt_of_le hal HB3.out.size)
          have e1 : IntKind.i64.wrap (p.x + 1) = p.x + 1 := IntWalk.i64_in _ (by omega)
          go_upto_region 12 with fail
          go_region_held3 (fun w' => w'.cell? (a.add (j * 2)) = some (.int .i64 p.x) ∧ w'.cell? ⟨(a.add (j * 2)).block, (a.add (j * 2)).off + 1, none⟩ = some (.int .i64 p.y))
            (first | go_keep | exact ⟨(hb5.cell (p := a.add (j * 2)) HKB.out).trans c0, (hb5.cell (p := ⟨(a.add (j * 2)).block, (a.add (j * 2)).off + 1, none⟩) HKB.out).trans c1⟩)
            (first | (go_at_call_of 37 u; refine (comb_one u out p w4.heap.size _ _ HO3.out (Nat.le_trans HL.out.2.1.size HB3.out.size) HL.out.2.2.1.ok hout HPI.out rfl).mono ?_; rintro e w5 ⟨v', res, rfl, ho5, hop5, hb5⟩))
          have HL5 := hid (show OwnR w5 w4.heap.size v' res ∧ Below w4.heap.size w4 w5 ∧ Made (ps.take (j + 1)) res ∧ ∀ q ∈ ps.take (j + 1), PIn q from ⟨ho5, (below_next HL.out.2.1 HB3.out).trans (hb5.mono (Nat.le_trans HL.out.2.1.size HB3.out.size)), by rw [HT.out]; exact made_join HL.out.2.2.1 hop5, fun q hq => by
            rw [HT.out] at hq
            rcases List.mem_append.1 hq with k | k
            · exact HL.out.2.2.2 q k
            · rw [List.mem_singleton.1 k]; exact HPI.out⟩)
          clear ho5 hop5 hb5 c0 c1 e1
          go_wp2_with fail
          go_roundw
          case rel => exact ⟨j + 1, v', res, rfl, by omega, by go_num, HL5⟩
          case measure => simp [intOf]; omega
        · have hpd := hid (show false = decide (PIn ⟨p.x, p.y⟩) from (decide_eq_false hp).symm)
          go_quiet (first | (go_at_call_of 38 (Value.int IntKind.i64 p.x); exact permd_quiet hpd.out))
          have HB3 := hid (below_next (HB2.out.trans (HL.out.2.1.mono HB2.out.size)) (below_drewN (Below.refl wr.heap.size wr) nq))
          have h3 : E = 3 := by rw [HE.out]; exact if_neg fun k => hp (k p HM.out)
          have hL0 : L = 0 := by rw [HL0.out, HM2.out (by rw [← HE.out, h3]; decide)]; rfl
          subst h3 hL0
          generalize World.drewN wr _ = W3 at HB3 ⊢
          go_wp2_with fail
          go_ret
          exact ⟨rfl, HB3.out⟩
      · have hall := hid (show ∀ p ∈ ps, PIn p from fun p hp => HL.out.2.2.2 p (by rw [List.take_of_length_le (by have := HP.out; omega)]; exact hp))
        have hmo := hid (show Made ps out by have := HL.out.2.2.1; rwa [List.take_of_length_le (by have := HP.out; omega)] at this)
        have h0 : E = 0 := by rw [HE.out]; exact if_pos hall.out
        have he := hid (made_uniq (HM1.out (by rw [← HE.out, h0])) hmo.out)
        subst h0
        obtain ⟨A6, c6, hv6, hr6⟩ := HL.out.1.is
        have HR6 := hid hr6
        obtain ⟨L6, hL6⟩ : ∃ L6, L6 = out.length := ⟨_, rfl⟩
        rw [← hL6] at hv6
        have HL6 := hid hL6
        have hLL : L6 ≤ 60 := by rw [hL6, ← he.out, ← HL0.out]; exact hL60
        have HB5 := hid (HB2.out.trans (HL.out.2.1.mono HB2.out.size))
        have HR7 := hid (HR2.out.next HL.out.2.1)
        clear hr6 hL6
        subst hv6
        go_wp2_with fail
        (with_reducible refine (same_any A3 A6 L c3 L6 c6 rs out _ HL0.out HL6.out (by unfold maxLen; omega) (by unfold maxLen; omega) HR7.out HR6.out).mono ?_); rintro e w6 ⟨rfl, hb6⟩
        rw [show decide (rs = out) = true from decide_eq_true he.out]
        have HB6 := hid (below_next HB5.out hb6)
        clear hb6
        go_wp2_with fail
        go_ret
        exact ⟨rfl, HB6.out⟩

set_option maxRecDepth 100000 in
theorem lifted (os : Os) (started : os.Started) (H : Type) (enc : TypeId × Value → H) :
    ReturnsInHanded {} Try.checked os 11 .any (Rows.regionOfPointsSpec.pre6 enc Try.prog Try.f11 Rows.regionOfPointsRow.domain false) (Rows.regionOfPointsSpec.post enc Try.prog Try.f11 false true false false) := by
  refine returnsInHanded_of_change (C := Try.checked) own started (by kernel_rfl) Try.func11
    (ChangeSpec.witness6 (enc := enc) (C := Try.checked) false ⟨#[], #[.slice none 0 0], []⟩ 8 (by kernel_rfl) (by kernel_rfl) (by kernel_rfl) (by kernel_rfl)) ?_
  intro W base args ds gs before hval0 hW hcnd _
  have hval : ∀ (j : Nat) t v, Try.f11.params[j]? = some t → args[j]? = some v → Value.okWide Try.prog W .any base t v := hval0
  have hW' := hW
  obtain ⟨p, q, hA0, hV, rfl, hfz, hnd⟩ := hW
  have hA : DataW.TrodAll enc Try.prog W 0 (fun _ => true) true Try.f11.params.toList args.toList ds p := hA0
  rw [Try.params11] at hA hval
  obtain ⟨v0, vs0, d0, ds0, p0, q0, hargs, rfl, rfl, h0, r0⟩ := trodAll_cons hA
  obtain ⟨rfl, rfl, rfl⟩ := trodAll_nil r0
  obtain rfl : args = #[v0] := by cases args; simp_all
  obtain ⟨rfl, rfl⟩ := trodVars_none hV
  have k0 := h0
  have lt0 : ∀ x ∈ p0, x.block < W.heap.size := by obtain ⟨m, hm⟩ := k0; exact DataW.trod_lt m _ _ _ hm
  obtain ⟨A0, n0, c0, ss0, rfl, hn0, hs0, hm0⟩ := open_pts Try.underlying36 Try.underlying41 (by kernel_rfl) (by kernel_rfl) (by kernel_rfl) (hval 0 36 v0 rfl rfl) h0
  have hc0 := open_cap Try.underlying36 h0
  clear hA0 hval0
  refine (rest A0 n0 c0 ss0 W hn0 hs0 hm0 hc0).mono fun e W' ⟨he, bel⟩ => ?_
  subst he
  exact ⟨_, rfl, _, _, _, [], _, [], hW', trodAll_mk1 (shut_bool Try.underlying4 _), (trodAll_cons_mk (Below.trod laidOut (by kernel_rfl) (of_decide_eq_true (by kernel_rfl)) k0 bel lt0) trodAll_mk0), rfl, bel.frame _, fun h => by cases h⟩

theorem over : Rows.regionOfPointsRow.holds Try.pinned (OpenSpec.ofChange Rows.regionOfPointsSpec) :=
  OpenClaim.holds_of_wide 11 Try.f11 rfl rfl rfl rfl rfl rfl rfl ⟨rfl, rfl, rfl, rfl, rfl⟩ rfl rfl rfl rfl rfl (by kernel_rfl) Try.func11 (by kernel_rfl)
    (of_decide_eq_true (by kernel_rfl)) (by unfold Func.isWrapper; first | (rw [if_pos (by decide +kernel)]; kernel_rfl) | (rw [if_neg (by decide +kernel)]; exact ⟨rfl, rfl⟩))
    (fun os started H enc _ => lifted os started H enc)

/-- The statement. -/
theorem proved : Rows.RegionOfPointsSaid := over
end Go.Proofs.Ytepnpnidbpaimaa.regionOfPoints
