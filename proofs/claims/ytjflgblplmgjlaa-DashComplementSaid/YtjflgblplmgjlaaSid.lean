/- dash's sidesOf. -/
import Derived.Test.YtjflgblplmgjlaaDis
import Derived.Test.YtjflgblplmgjlaaKcl
import Derived.BigRegion
import Derived.Deep.DeepCutAuto
namespace Go.Proofs.Ytjflgblplmgjlaa
open Go Go.RowKit
set_option linter.unusedVariables false
set_option linter.unusedSimpArgs false

theorem wpList_append_Pt {ops : Array Oper} {rest : List Oper} {o : Oper} {a : Act} {Q : Exit → Act → World → Prop} {w : World} {B : Nat} {v : Value} {xs : List P2} {s : P2} (hgd : o.guard = none) (y x : Operand)
    (ho : o.op = .call { callee := .builtin .append, args := #[y, x], argTypes := #[25, 25] }) (hB : B ≤ w.heap.size) (hs : a.eval y = v) (hx : a.eval x = .slice (some ⟨w.heap.size, 0, none⟩) 1 1)
    (hown : OwnP w B v xs) (hl : xs.length ≤ 5000000000)
    (k : ∀ v' w', OwnP w' B v' (xs ++ [s]) → Gr v v' w w' → wpList Try.prog ops Q rest (a.put o.dst v') w') : wpList Try.prog ops Q (o :: rest) a (w.alloc (.cells (pcel s) 37)) := by
  obtain ⟨v', w', h1, h2, h3⟩ := append_pt (ty := o.type) (s := s) hB hown hl
  refine wpList_plain hgd fun K hK' => ?_
  simp [Oper.wp, execOp, ho, resolve, invoke, builtin, hs, hx, h1, Result.andThen]
  exact hK' _ _ (k v' w' h2 h3)
theorem wpList_append_D {ops : Array Oper} {rest : List Oper} {o : Oper} {a : Act} {Q : Exit → Act → World → Prop} {w : World} {B : Nat} {v : Value} {xs : List Sd} {s : Sd} (hgd : o.guard = none) (y x : Operand)
    (ho : o.op = .call { callee := .builtin .append, args := #[y, x], argTypes := #[53, 53] }) (hB : B ≤ w.heap.size) (hs : a.eval y = v) (hx : a.eval x = .slice (some ⟨w.heap.size, 0, none⟩) 1 1)
    (hown : OwnD w B v xs) (hl : xs.length ≤ 5000000000)
    (k : ∀ v' w', OwnD w' B v' (xs ++ [s]) → Gr v v' w w' → wpList Try.prog ops Q rest (a.put o.dst v') w') : wpList Try.prog ops Q (o :: rest) a (w.alloc (.cells (sdc s) 72)) := by
  obtain ⟨v', w', h1, h2, h3⟩ := append_d (ty := o.type) (s := s) hB hown hl
  refine wpList_plain hgd fun K hK' => ?_
  simp [Oper.wp, execOp, ho, resolve, invoke, builtin, hs, hx, h1, Result.andThen]
  exact hK' _ _ (k v' w' h2 h3)
theorem walkP_t {ps : List P2} {cl : Bool} (h : cl = true) (h2 : 2 ≤ ps.length) : walkP ps cl = ps ++ [ps.getD 0 default] := if_pos ⟨h, h2⟩
theorem walkP_f {ps : List P2} {cl : Bool} (h : ¬ (cl = true ∧ 2 ≤ ps.length)) : walkP ps cl = ps := if_neg h
theorem walkP_len (ps : List P2) (cl : Bool) : (walkP ps cl).length ≤ ps.length + 1 := by
  unfold walkP; split <;> simp
theorem walkP_in {ps : List P2} {cl : Bool} (h : ∀ p ∈ ps, PIn p) : ∀ p ∈ walkP ps cl, PIn p := by
  unfold walkP
  split
  · intro p hp
    rcases List.mem_append.1 hp with h1 | h1
    · exact h p h1
    · rw [List.mem_singleton.1 h1]; exact getD_in h
  · exact h

set_option maxRecDepth 100000 in
set_option maxHeartbeats 4000000 in
theorem sides_any (A : Option Addr) (ps : List P2) (n c : Nat) (cl : Bool) (w : World) (hn : n = ps.length) (hl : n ≤ 2000000) (hs : Pts w A ps) (hp : ∀ p ∈ ps, PIn p) :
    Calls Try.prog 24 #[.agg #[.slice A n c, .bool cl]] w fun e w' => ∃ v, e = .returned v ∧ OwnD w' w.heap.size v (sidesP (walkP ps cl)) ∧ Below w.heap.size w w' := by
  have HN := hid hn
  have HS := hid hs
  have HP := hid hp
  have HB0 := hid (below_alloc (Below.refl w.heap.size w) (.cells #[.slice A n c, .bool cl] 27))
  have HV := hid (Var.new w #[.slice A n c, .bool cl] 27 _ rfl)
  obtain ⟨qs, hqs⟩ : ∃ qs, qs = walkP ps cl := ⟨_, rfl⟩
  have HQS := hid hqs
  rw [← hqs]
  clear hn hs hp hqs
  go_enter Try.func24, Try.ntmps24
  go_wp2_with fail
  (with_reducible refine (clone_any A ps n c _ HN.out (by omega) (HS.out.next HB0.out)).mono ?_); rintro e w1 ⟨v, rfl, ho, hb⟩
  have HO1 := hid (ho.mono HB0.out.size)
  have HB1 := hid (below_next HB0.out hb)
  obtain ⟨A1, c1, rfl, hp1⟩ := HO1.out.is
  have HP1 := hid hp1
  have HV1 := hid (HV.out.next hb)
  obtain ⟨x0, x1, -⟩ := HV1.out.read2
  rw [← HN.out] at HO1 ⊢
  clear ho hb hp1
  obtain ⟨G, hG⟩ : ∃ G : Bool, G = (cl && decide (2 ≤ n)) := ⟨_, rfl⟩
  have HG := hid hG
  clear hG
  go_upto_region 2 with fail
  go_cut [19] (fun s19 wx => s19 = .bool G ∧ wx = w1)
  case first =>
    cases cl with
    | false =>
      go_wp2_with fail
      go_meet
      exact ⟨by rw [HG.out]; rfl, rfl⟩
    | true =>
      by_cases h2 : 2 ≤ n
      · have h2' : (2 : Int) ≤ (n : Int) := by omega
        go_wp2_with fail
        go_meet
        exact ⟨by rw [HG.out, decide_eq_true h2]; rfl, rfl⟩
      · have h2' : ¬ (2 : Int) ≤ (n : Int) := by omega
        go_wp2_with fail
        go_meet
        exact ⟨by rw [HG.out, decide_eq_false h2]; rfl, rfl⟩
  case rest =>
  obtain ⟨rfl, hw1⟩ := hcut
  subst hw1
  clear x0 x1
  go_upto_if 19 with fail
  go_cut [3] (fun s3 wx => ∃ (v' : Value), v' = s3 ∧ Hid (OwnP wx w.heap.size v' qs) ∧ Hid (Below w.heap.size w wx))
  case first =>
    cases G with
    | false =>
      have HQ := hid (HQS.out.trans <| walkP_f (ps := ps) (cl := cl) (by
        rintro ⟨h1, h2⟩
        have := HG.out
        rw [h1, decide_eq_true (by rw [HN.out]; exact h2)] at this
        cases this))
      go_wp2_with fail
      go_meet
      exact ⟨_, rfl, hid (by rw [HQ.out]; exact HO1.out), HB1⟩
    | true =>
      obtain ⟨hc1, hc2⟩ := Bool.and_eq_true_iff.1 HG.out.symm
      have h2 : 2 ≤ n := of_decide_eq_true hc2
      have hp0 : 0 < ps.length := by rw [← HN.out]; omega
      have HQ := hid (HQS.out.trans <| walkP_t (ps := ps) hc1 (by rw [← HN.out]; exact h2))
      clear hc1 hc2
      obtain ⟨a, rfl, hal, hsa⟩ := HP1.out.at_ hp0
      have HE := hid (show ps.getD 0 default = ps[0] by rw [List.getD_eq_getElem?_getD, List.getElem?_eq_getElem hp0]; rfl)
      rw [HE.out] at HQ
      generalize ps[0] = q at hsa HQ
      rw [show a.add (0 * 2) = a by unfold Addr.add; rfl] at hsa
      obtain ⟨y0, y1⟩ := hsa
      have HBZ := hid (show w.heap.size ≤ wc.heap.size from HB1.out.size)
      have HLN := hid (show ps.length ≤ 5000000000 by rw [← HN.out]; omega)
      go_wp2_with (at_builtin; refine wpList_append_Pt (B := w.heap.size) (s := q) rfl _ _ rfl HBZ.out rfl rfl HO1.out HLN.out ?_)
      intro v' w' ho hg
      have HO2 := hid ho
      have HB2 := hid (hg.below HBZ.out fun k hk => (HO1.out.ge k hk).1)
      clear ho hg
      go_wp2_with fail
      go_meet
      exact ⟨_, rfl, hid (by rw [HQ.out]; exact HO2.out), hid (HB1.out.trans HB2.out)⟩
  case rest =>
    clear HO1 HP1 HB1 HV1
    obtain ⟨v, rfl, HO, HB⟩ := hcut
    have hql : qs.length ≤ 2000001 := by have := walkP_len ps cl; have := HN.out; rw [HQS.out]; omega
    have HQI := hid (show ∀ p ∈ qs, PIn p by rw [HQS.out]; exact walkP_in HP.out)
    clear HG
    obtain ⟨A2, c2, rfl, hp2⟩ := HO.out.is
    have HP2 := hid hp2
    obtain ⟨m, hm⟩ : ∃ m, m = qs.length := ⟨_, rfl⟩
    rw [← hm] at HO hql ⊢
    have HM := hid hm
    clear hp2 hm
    obtain ⟨S, hS⟩ : ∃ S, S = wc.heap.size := ⟨_, rfl⟩
    have HLT := hid (show ∀ q, (Value.slice A2 m c2).ownBlock = some q → q < S from fun q hq => hS ▸ (HO.out.ge q hq).2)
    have HS0 := hid (Nat.le_of_eq hS)
    clear hS
    go_wp2_with fail
    go_loopw [4, 5, 6] (fun s4 s5 s6 wr => ∃ (j : Nat) (u : Value), u = s4 ∧ s5 = .int .i64 (posn qs j) ∧ s6 = .int .i64 ((j + 1 : Nat) : Int) ∧ j ≤ m - 1 ∧ Hid (OwnD wr w.heap.size u ((List.range j).map (sdAt qs)) ∧ Pts wr A2 qs ∧ apart u (.slice A2 m c2) ∧ Below w.heap.size w wr ∧ S ≤ wr.heap.size)) (fun _ _ s6 _ => m - (intOf s6).toNat)
    case atStart => exact ⟨0, _, rfl, rfl, rfl, Nat.zero_le _, hid ⟨OwnD.nil _ _, HP2.out, apart.nil _, HB.out, HS0.out⟩⟩
    case round =>
      clear HO HB
      obtain ⟨j, u, rfl, rfl, rfl, hj, HR⟩ := hrel
      by_cases hlt : j + 1 < m
      · have h1 : ((j + 1 : Nat) : Int) - 1 = (j : Int) := by omega
        have h2 : (j : Int) < (m : Int) := by omega
        have h3 : ((j + 1 : Nat) : Int) < (m : Int) := by omega
        obtain ⟨a, rfl, hal, hsa⟩ := HR.out.2.1.at_ (show j < qs.length by rw [← HM.out]; omega)
        obtain ⟨a', ea, -, hsb⟩ := HR.out.2.1.at_ (show j + 1 < qs.length by rw [← HM.out]; omega)
        cases ea
        have HSD := hid (show sdAt qs j = ⟨qs[j]'(by rw [← HM.out]; omega), qs[j + 1]'(by rw [← HM.out]; omega), posn qs j, posn qs j + dst (qs[j]'(by rw [← HM.out]; omega)) (qs[j + 1]'(by rw [← HM.out]; omega))⟩ by
          unfold sdAt
          rw [show posn qs (j + 1) = posn qs j + dst (qs.getD j default) (qs.getD (j + 1) default) from rfl]
          have e0 : qs.getD j default = qs[j]'(by rw [← HM.out]; omega) := by rw [List.getD_eq_getElem?_getD, List.getElem?_eq_getElem (by rw [← HM.out]; omega)]; rfl
          have e1 : qs.getD (j + 1) default = qs[j + 1]'(by rw [← HM.out]; omega) := by rw [List.getD_eq_getElem?_getD, List.getElem?_eq_getElem (by rw [← HM.out]; omega)]; rfl
          rw [e0, e1])
        have HI0 := hid (HQI.out _ (List.getElem_mem (show j < qs.length by rw [← HM.out]; omega)))
        have HI1 := hid (HQI.out _ (List.getElem_mem (show j + 1 < qs.length by rw [← HM.out]; omega)))
        generalize qs[j]'(_) = p at hsa HSD HI0
        generalize qs[j + 1]'(_) = q at hsb HSD HI1
        obtain ⟨c0, c1⟩ := hsa
        obtain ⟨d0, d1⟩ := hsb
        go_upto_region 9 with fail
        go_cut [7, 8] (fun s7 s8 wx => ∃ (g7 g8 : Nat), s7 = .pointer (some ⟨g7, 0, none⟩) ∧ s8 = .pointer (some ⟨g8, 0, none⟩) ∧ Hid (Var wx g7 (pcel p) 37 ∧ Var wx g8 (pcel q) 37 ∧ Below wr.heap.size wr wx))
        case first =>
          have b0 : (a.add (j * 2)).block < wr.heap.size := by rw [add_block]; exact hal
          have b1 : (a.add ((j + 1) * 2)).block < wr.heap.size := by rw [add_block]; exact hal
          have h5 : IntKind.i64.wrap (j : Int) = (j : Int) := IntWalk.i64_in _ (by omega)
          go_region
          all_goals (go_wp2_with fail; go_meet)
          all_goals first
            | exact ⟨_, _, rfl, rfl, hid ⟨((Var.new _ _ _ _ rfl).alloc _).drew, (Var.new _ _ _ _ (by simp)).drew, (below_alloc (below_alloc (Below.refl _ _) _) _).drew⟩⟩
            | exact ⟨_, _, rfl, rfl, hid ⟨(Var.new _ _ _ _ (by simp)).drew, ((Var.new _ _ _ _ rfl).alloc _).drew, (below_alloc (below_alloc (Below.refl _ _) _) _).drew⟩⟩
        case rest =>
          clear c0 c1 d0 d1 HP2
          obtain ⟨g7, g8, rfl, rfl, HV2⟩ := hcut
          obtain ⟨x0, x1, -⟩ := HV2.out.1.read2
          obtain ⟨y0, y1, -⟩ := HV2.out.2.1.read2
          go_wp2_with fail
          (with_reducible refine (dist_any p q _ HI0.out HI1.out).mono ?_); rintro e w5 ⟨rfl, hb⟩
          have pb0 := posn_nn qs j
          have pb1 := posn_le (HQI.out) j
          have pd0 := dst_nn p q
          have pd1 := dst_le HI0.out HI1.out
          have HB5 := hid (below_next HV2.out.2.2 hb)
          have HO5 := hid (HR.out.1.next HB5.out)
          have HP5 := hid (HR.out.2.1.next HB5.out)
          have HV5 := hid (show Var w5 g7 (pcel p) 37 ∧ Var w5 g8 (pcel q) 37 from ⟨HV2.out.1.next hb, HV2.out.2.1.next hb⟩)
          have HBW := hid (show w.heap.size ≤ w5.heap.size from Nat.le_trans HR.out.2.2.2.1.size HB5.out.size)
          have HBL := hid (show Below w.heap.size w w5 from below_next HR.out.2.2.2.1 HB5.out)
          have HWC := hid (show S ≤ w5.heap.size from Nat.le_trans HR.out.2.2.2.2 HB5.out.size)
          have HAP := hid HR.out.2.2.1
          have HPN := hid (show posn qs (j + 1) = posn qs j + dst p q by have := congrArg Sd.e HSD.out; exact this)
          have HLN := hid (show ((List.range j).map (sdAt qs)).length ≤ 5000000000 by rw [List.length_map, List.length_range]; omega)
          clear x0 x1 y0 y1 hb HV2 HR
          generalize posn qs j = P0 at *
          generalize dst p q = D at *
          obtain ⟨x0, x1, -⟩ := HV5.out.1.read2
          obtain ⟨y0, y1, -⟩ := HV5.out.2.read2
          go_wp2_with (at_builtin; refine wpList_append_D (B := w.heap.size) (s := ⟨p, q, P0, P0 + D⟩) rfl _ _ rfl HBW.out rfl rfl HO5.out HLN.out ?_)
          intro v' w' ho hg
          have HO6 := hid (show OwnD w' w.heap.size v' ((List.range (j + 1)).map (sdAt qs)) by
            rw [List.range_succ, List.map_append]
            show OwnD w' w.heap.size v' ((List.range j).map (sdAt qs) ++ [sdAt qs j])
            rw [HSD.out]; exact ho)
          have HP6 := hid (pts_gr (A := some a) (n := m) (c := c2) HP5.out hg HAP.out)
          have HA6 := hid (HAP.out.gr hg fun q hq => Nat.lt_of_lt_of_le (HLT.out q hq) HWC.out)
          have HB6 := hid (HBL.out.trans (hg.below HBW.out fun k hk => (HO5.out.ge k hk).1))
          have HW6 := hid (Nat.le_trans HWC.out hg.size)
          clear ho hg HO5 HP5 HAP HBL HWC HBW HB5 HV5 x0 x1 y0 y1
          go_wp2_with fail
          go_roundw
          case rel => exact ⟨j + 1, v', rfl, by rw [HPN.out], by go_num, by omega, hid ⟨HO6.out, HP6.out, HA6.out, HB6.out, HW6.out⟩⟩
          case measure => simp [intOf]; omega
      · have hje : j = m - 1 := by omega
        have h3 : ¬ ((j + 1 : Nat) : Int) < (m : Int) := by omega
        have HSP := hid (show (List.range j).map (sdAt qs) = sidesP qs by unfold sidesP; rw [hje, HM.out])
        have HO6 := hid (HSP.out ▸ HR.out.1)
        have HB6 := hid HR.out.2.2.2.1
        clear HR
        go_wp2_with fail
        go_ret
        exact ⟨_, rfl, HO6.out, HB6.out⟩
end Go.Proofs.Ytjflgblplmgjlaa
