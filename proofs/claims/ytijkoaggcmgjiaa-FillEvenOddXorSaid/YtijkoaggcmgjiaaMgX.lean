/- Put together by merge.py: FllE, Four, Kcc, Kxo. -/
import Derived.Test.YtijkoaggcmgjiaaFst
import Derived.Test.YtijkoaggcmgjiaaCmb
import Derived.Test.YtijkoaggcmgjiaaMgK
import Derived.Lib.AppendZeros
import Derived.Test.YtijkoaggcmgjiaaEqr

/- fill.Fill with the rule EvenOdd (written by r9_fll.py). -/
namespace Go.Proofs.Ytijkoaggcmgjiaa
open Go Go.RowKit
attribute [local go_sem] Oper.semAt_some
set_option linter.unusedVariables false
set_option linter.unusedSimpArgs false

set_option maxRecDepth 100000 in
set_option maxHeartbeats 16000000 in
theorem fill_E (A : Option Addr) (ls : List Ln) (n c : Nat) (w : World) (hn : n = ls.length) (hl : n ≤ maxLen) (hs : Lns w A ls) (hok : lchk ls = 0) (hlen : (edgesL ls).length ≤ 1000000) :
    Calls Try.prog 13 #[.slice A n c, .int .i64 1] w (GivesF true ls w) := by
  obtain ⟨es, rfl, hE⟩ := hs.ext
  have HS := hid hs
  have HE := hid hE
  have HN := hid hn
  have HM := hid hl
  have HLE := hid hlen
  have hne' : n = es.length := by simpa using hn
  have HNE := hid hne'
  clear hs hE hn hlen hne' hl
  go_enter Try.func13, Try.ntmps13
  go_wp2_with fail
  (with_reducible refine (fcheck_any A (es.map LE.ln) n c _ HN.out HM.out HS.out).mono ?_); rintro e w1 ⟨rfl, hb⟩
  rw [hok]
  have HB1 := hid hb
  clear hb
  go_wp2_with fail
  (with_reducible refine (psl_any A es n c _ HNE.out HM.out (HE.out.next HB1.out) HLE.out).mono ?_); rintro e w2 ⟨⟨v0, W, rfl, hown, hperm, hsort⟩, hb⟩
  have HB2 := hid (below_next HB1.out hb)
  have HO0 := hid (hown.mono HB1.out.size)
  have HWP := hid hperm
  have HWS := hid hsort
  have hwl : W.length ≤ 1000000 := by have h1 := hperm.length_eq; have h2 := perL_len (edgesL (es.map LE.ln)); have := HLE.out; omega
  have HPER := hid (show ∀ s ∈ W, perS s = true from fun s hs => by
    have h1 := hperm.mem_iff.1 hs
    unfold perL at h1
    exact (List.mem_filter.1 h1).2)
  have HIN := hid (show ∀ s ∈ W, SlIn s from fun s hs => by
    have h1 := hperm.mem_iff.1 hs
    unfold perL at h1
    obtain ⟨e, he, rfl⟩ := List.mem_map.1 (List.mem_filter.1 h1).1
    have := edges_mem (lok_all (lok_of hok)) e he
    exact slp_in this.1 this.2)
  clear hb hown hperm hsort
  generalize es.map LE.ln = ls at *
  obtain ⟨B, hBe⟩ : ∃ B, B = w.heap.size := ⟨_, rfl⟩
  have HST := hid (show FSt B w (w2.alloc (.cells #[.int .i64 (-8192)] 3)) W w2.heap.size (-8192) v0 (.slice none 0 0) (.slice none 0 0) (.slice none 0 0) 0 [] [] [] by rw [hBe]; exact FSt.start HB2.out HO0.out)
  have HBE := hid hBe
  clear hBe HO0
  go_wp2_with fail
  go_loopw [7, 8, 9, 10, 11] (fun s7 s8 s9 s10 s11 wr => ∃ (y : Int) (b k : Nat) (act : List Sl) (acc : List Rn) (ss : List Stp) (vW vF vA vS : Value), vW = s7 ∧ vF = s8 ∧ vA = s9 ∧ vS = s10 ∧ s11 = .pointer (some ⟨b, 0, none⟩) ∧ -8192 ≤ y ∧ y ≤ 8192 ∧ Hid (FSt B w wr W b y vW vF vA vS k act acc ss) ∧ Hid (Actv W act k y) ∧ Hid (UpTo true ls y acc)) (fun _ _ _ _ s11 wr => (8192 - ptrInt wr s11).toNat)
  case atStart => exact ⟨-8192, _, 0, [], [], [], _, _, _, _, rfl, rfl, rfl, rfl, rfl, by omega, by omega, HST, hid (Actv.start W), hid (UpTo.start _ _)⟩
  case round =>
    clear HST
    obtain ⟨wo, rfl⟩ : ∃ wo, wo = wr := ⟨_, rfl⟩
    obtain ⟨y, b, k, act, acc, ss, vW, vF, vA, vS, rfl, rfl, rfl, rfl, rfl, hy1, hy2, HF, HA, HU⟩ := hrel
    have HBW := hid (show B ≤ wo.heap.size by have := HF.out.be.size; have := HBE.out; omega)
    have hMY := ptrInt_is (HF.out.yv.cell 0)
    have HMY := hid hMY
    clear hMY
    obtain ⟨y0, y1⟩ := HF.out.yv.read1
    by_cases hlt : y < 8192
    · have hal : act.length ≤ 1000000 := by rw [HA.out.e]; exact Nat.le_trans (List.length_filter_le _ _) (by rw [List.length_take]; omega)
      go_wp2_with fail
      (with_reducible refine (delS_any vA act b y B _ HBW.out HF.out.ac hal y0 HF.out.yv.lt HF.out.AY.no).mono ?_); rintro e w3 ⟨vA2, rfl, hown, hgr⟩
      have HF2 := hid (HF.out.activ HBW.out hown hgr)
      have HBW2 := hid (Nat.le_trans HBW.out hgr.size)
      obtain ⟨A2, c2, rfl, -⟩ := hown.is
      clear hown hgr y0 y1 HF HBW
      obtain ⟨y0, y1⟩ := HF2.out.yv.read1
      obtain ⟨Aw, cw, rfl, hcw, hcm, hrw⟩ := HF2.out.wt
      have HRW := hid hrw
      clear hrw
      have HAS := hid (show (delS y act).length = 0 ↔ delS y act = [] from List.length_eq_zero_iff)
      go_upto_if 34 with fail
      go_cut [7, 9, 11] (fun s7 s9 s11 wx => ∃ (y2 : Int) (act2 : List Sl) (vA3 : Value), s7 = .slice Aw (W.length - k) cw ∧ vA3 = s9 ∧ s11 = .pointer (some ⟨b, 0, none⟩) ∧ y ≤ y2 ∧ y2 ≤ 8191 ∧ Hid (FSt B w wx W b y2 (.slice Aw (W.length - k) cw) vF vA3 vS k act2 acc ss) ∧ Hid (Ref W act2 k y2) ∧ Hid (UpTo true ls y2 acc))
      case first =>
        by_cases he : delS y act = []
        · have hz : (((delS y act).length : Int) == 0) = true := by rw [he]; rfl
          have hyv := HF2.out.yv
          by_cases hk : k < W.length
          · have hkz : (((W.length - k : Nat) : Int) == 0) = false := beq_eq_false_iff_ne.2 (by omega)
            have hkd : 0 < (W.drop k).length := by rw [List.length_drop]; omega
            obtain ⟨a, rfl, hal2, hsa⟩ := HRW.out.at_ hkd
            have hd0 : (W.drop k)[0] = W[k] := by rw [List.getElem_drop]; rfl
            rw [hd0, show a.add (0 * 5) = a by unfold Addr.add; rfl] at hsa
            have HJ := hid (HA.out.jump HPER.out HWS.out (by omega) he hk)
            have HTC := hid hsa.c1
            have HTL := hid hal2
            generalize W[k].t.y = t0 at HJ HTC
            clear hsa hal2 hd0 hkd
            go_upto_region 16 with fail
            refine wpIn_wide.1 (grow_tail (F := Fence.wide) (n := 0) 7 (by kernel_rfl) (by kernel_rfl) (by kernel_rfl) ?_)
            simp only [List.take_succ_cons, List.take_zero, List.drop_succ_cons, List.drop_zero]
            refine gq_val (v := .int .i64 y) (fun _ => trivial) rfl (fun w' hw' => run_loadInt rfl ((HF2.out.yv.next hw').cell 0)) ?_
            simp only [Act.put, List.setIfInBounds_toArray, List.set_cons_succ, List.set_cons_zero]
            refine gq_val (v := .slice (some a) (W.length - k) cw) (fun _ => trivial) rfl (fun w' hw' => rfl) ?_
            simp only [Act.put, List.setIfInBounds_toArray, List.set_cons_succ, List.set_cons_zero]
            refine gq_val (v := .pointer (some a)) (fun _ => trivial) rfl (fun w' hw' => run_idxS0 rfl rfl (by omega)) ?_
            simp only [Act.put, List.setIfInBounds_toArray, List.set_cons_succ, List.set_cons_zero]
            refine gq_val (v := .pointer (some a)) (fun _ => trivial) rfl (fun w' hw' => run_fldSl0 rfl) ?_
            simp only [Act.put, List.setIfInBounds_toArray, List.set_cons_succ, List.set_cons_zero]
            refine gq_val (v := .pointer (some ⟨a.block, a.off + 1, none⟩)) (fun _ => trivial) rfl (fun w' hw' => run_fldY rfl) ?_
            simp only [Act.put, List.setIfInBounds_toArray, List.set_cons_succ, List.set_cons_zero]
            refine gq_val (v := .int .i64 t0) (fun _ => trivial) rfl (fun w' hw' => run_loadInt rfl ((hw'.cell (p := ⟨a.block, a.off + 1, none⟩) HTL.out).trans HTC.out)) ?_
            simp only [Act.put, List.setIfInBounds_toArray, List.set_cons_succ, List.set_cons_zero]
            refine gq_val (v := .int .i64 (max y t0)) (fun _ => trivial) rfl (fun w' hw' => run_max2 rfl rfl) ?_
            simp only [Act.put, List.setIfInBounds_toArray, List.set_cons_succ, List.set_cons_zero]
            refine wpQuietIn_nil ?_
            rintro X4 hb4
            have HF4 := hid (HF2.out.next HBW2.out hb4)
            clear hb4 HF2 hyv y0 y1
            obtain ⟨y0, y1⟩ := HF4.out.yv.read1
            gi_wp2
            go_meet
            exact ⟨max y t0, delS y act, _, rfl, rfl, rfl, by omega, HJ.out.2.1, hid (HF4.out.setY _), hid (by rw [he]; exact HJ.out.1), hid (HU.out.skip hy1 (by omega) fun y' h1 h2 _ => hits_nil HWP.out (HJ.out.2.2 y' h1 h2))⟩
          · have hkz : (((W.length - k : Nat) : Int) == 0) = true := by simp; omega
            have HOV := hid (HA.out.over he (by omega))
            go_wp2_with fail
            go_ret2
            exact ⟨⟨vF, acc, rfl, (HU.out.skip (y2 := 8192) hy1 (by omega) fun y' h1 h2 _ => hits_nil HWP.out (HOV.out y' h1)).whole (Int.le_refl _), HBE.out ▸ HF2.out.fl⟩, HBE.out ▸ HF2.out.be⟩
        · have hz : (((delS y act).length : Int) == 0) = false := beq_eq_false_iff_ne.2 (by have : (delS y act).length ≠ 0 := fun e => he (HAS.out.1 e); omega)
          go_wp2_with fail
          go_meet
          exact ⟨y, delS y act, _, rfl, rfl, rfl, Int.le_refl _, by omega, HF2, hid (HA.out.ref HPER.out), HU⟩
      case rest =>
        clear HF2 HA HU HRW HAS y0 y1 HBW2
        obtain ⟨y2, act2, vA3, rfl, rfl, rfl, hy3, hy4, HF2, HR, HU⟩ := hcut
        have HBW3 := hid (show B ≤ wc.heap.size by have := HF2.out.be.size; have := HBE.out; omega)
        go_wp2_with fail
        go_loopw [7, 9] (fun s7 s9 wr => ∃ (k2 : Nat) (act3 : List Sl) (vW3 vA4 : Value), vW3 = s7 ∧ vA4 = s9 ∧ Hid (FSt B w wr W b y2 vW3 vF vA4 vS k2 act3 acc ss) ∧ Hid (Ref W act3 k2 y2)) (fun s7 _ _ => lenV s7)
        case atStart => exact ⟨k, act2, _, _, rfl, rfl, HF2, HR⟩
        case round =>
          obtain ⟨wi, rfl⟩ : ∃ wi, wi = wr := ⟨_, rfl⟩
          clear HF2 HR HBW3
          obtain ⟨k2, act3, vW3, vA4, rfl, rfl, HF3, HR3⟩ := hrel
          have HBW3 := hid (show B ≤ wi.heap.size by have := HF3.out.be.size; have := HBE.out; omega)
          obtain ⟨Aw2, cw2, rfl, hcw2, hcm2, hrw2⟩ := HF3.out.wt
          have HRW := hid hrw2
          clear hrw2
          obtain ⟨GO, hGO⟩ : ∃ GO : Bool, GO = decide (∃ h : k2 < W.length, W[k2].t.y ≤ y2) := ⟨_, rfl⟩
          have HGO := hid hGO
          clear hGO
          go_upto_region 17 with fail
          go_cut [56] (fun s56 wx => s56 = .bool GO ∧ Hid (Below wi.heap.size wi wx))
          case first =>
            by_cases hk : k2 < W.length
            · have hkd : 0 < (W.drop k2).length := by rw [List.length_drop]; omega
              obtain ⟨a, rfl, hal2, hsa⟩ := HRW.out.at_ hkd
              have hd0 : (W.drop k2)[0] = W[k2] := by rw [List.getElem_drop]; rfl
              rw [hd0, show a.add (0 * 5) = a by unfold Addr.add; rfl] at hsa
              have HG2 := hid (show GO = decide (W[k2].t.y ≤ y2) by rw [HGO.out]; exact decide_eq_decide.2 ⟨fun h => h.2, fun h => ⟨hk, h⟩⟩)
              have HTC := hid hsa.c1
              have HTL := hid hal2
              generalize W[k2] = t at HTC HG2
              clear hsa hal2 hd0 hkd
              by_cases hle : t.t.y ≤ y2
              · obtain rfl : GO = true := by rw [HG2.out]; exact decide_eq_true hle
                refine wpIn_wide.1 (grow_round (F := Fence.wide) (n := 0) (by kernel_rfl) (by kernel_rfl) (by kernel_rfl) ?_)
                refine gq_val (v := .slice (some a) (W.length - k2) cw2) (fun _ => trivial) rfl (fun w' hw' => rfl) ?_
                simp only [Act.put, List.setIfInBounds_toArray, List.set_cons_succ, List.set_cons_zero]
                refine gq_val (v := .int .i64 ((W.length - k2 : Nat) : Int)) (fun _ => trivial) rfl (fun w' hw' => run_lenS rfl) ?_
                simp only [Act.put, List.setIfInBounds_toArray, List.set_cons_succ, List.set_cons_zero]
                refine gq_val (v := .bool true) (fun _ => trivial) rfl (fun w' hw' => run_gtrT rfl rfl (by omega)) ?_
                simp only [Act.put, List.setIfInBounds_toArray, List.set_cons_succ, List.set_cons_zero]
                refine gq_val (v := .bool true) (fun _ => trivial) rfl (fun w' hw' => rfl) ?_
                simp only [Act.put, List.setIfInBounds_toArray, List.set_cons_succ, List.set_cons_zero]
                refine gq_val (v := .slice (some a) (W.length - k2) cw2) (fun _ => trivial) rfl (fun w' hw' => rfl) ?_
                simp only [Act.put, List.setIfInBounds_toArray, List.set_cons_succ, List.set_cons_zero]
                refine gq_val (v := .pointer (some a)) (fun _ => trivial) rfl (fun w' hw' => run_idxS0 rfl rfl (by omega)) ?_
                simp only [Act.put, List.setIfInBounds_toArray, List.set_cons_succ, List.set_cons_zero]
                refine gq_val (v := .pointer (some a)) (fun _ => trivial) rfl (fun w' hw' => run_fldSl0 rfl) ?_
                simp only [Act.put, List.setIfInBounds_toArray, List.set_cons_succ, List.set_cons_zero]
                refine gq_val (v := .pointer (some ⟨a.block, a.off + 1, none⟩)) (fun _ => trivial) rfl (fun w' hw' => run_fldY rfl) ?_
                simp only [Act.put, List.setIfInBounds_toArray, List.set_cons_succ, List.set_cons_zero]
                refine gq_val (v := .int .i64 t.t.y) (fun _ => trivial) rfl (fun w' hw' => run_loadInt rfl ((hw'.cell (p := ⟨a.block, a.off + 1, none⟩) HTL.out).trans HTC.out)) ?_
                simp only [Act.put, List.setIfInBounds_toArray, List.set_cons_succ, List.set_cons_zero]
                refine gq_val (v := .int .i64 y2) (fun _ => trivial) rfl (fun w' hw' => run_loadInt rfl ((HF3.out.yv.next hw').cell 0)) ?_
                simp only [Act.put, List.setIfInBounds_toArray, List.set_cons_succ, List.set_cons_zero]
                refine gq_val (v := .bool true) (fun _ => trivial) rfl (fun w' hw' => run_leqT rfl rfl hle) ?_
                simp only [Act.put, List.setIfInBounds_toArray, List.set_cons_succ, List.set_cons_zero]
                refine gq_val (v := .bool true) (fun _ => trivial) rfl (fun w' hw' => rfl) ?_
                simp only [Act.put, List.setIfInBounds_toArray, List.set_cons_succ, List.set_cons_zero]
                refine wpQuietIn_nil ?_
                rintro X4 hb4
                go_wp2_with fail
                go_meet
                exact ⟨rfl, hid hb4⟩
              · obtain rfl : GO = false := by rw [HG2.out]; exact decide_eq_false hle
                refine wpIn_wide.1 (grow_round (F := Fence.wide) (n := 0) (by kernel_rfl) (by kernel_rfl) (by kernel_rfl) ?_)
                refine gq_val (v := .slice (some a) (W.length - k2) cw2) (fun _ => trivial) rfl (fun w' hw' => rfl) ?_
                simp only [Act.put, List.setIfInBounds_toArray, List.set_cons_succ, List.set_cons_zero]
                refine gq_val (v := .int .i64 ((W.length - k2 : Nat) : Int)) (fun _ => trivial) rfl (fun w' hw' => run_lenS rfl) ?_
                simp only [Act.put, List.setIfInBounds_toArray, List.set_cons_succ, List.set_cons_zero]
                refine gq_val (v := .bool true) (fun _ => trivial) rfl (fun w' hw' => run_gtrT rfl rfl (by omega)) ?_
                simp only [Act.put, List.setIfInBounds_toArray, List.set_cons_succ, List.set_cons_zero]
                refine gq_val (v := .bool true) (fun _ => trivial) rfl (fun w' hw' => rfl) ?_
                simp only [Act.put, List.setIfInBounds_toArray, List.set_cons_succ, List.set_cons_zero]
                refine gq_val (v := .slice (some a) (W.length - k2) cw2) (fun _ => trivial) rfl (fun w' hw' => rfl) ?_
                simp only [Act.put, List.setIfInBounds_toArray, List.set_cons_succ, List.set_cons_zero]
                refine gq_val (v := .pointer (some a)) (fun _ => trivial) rfl (fun w' hw' => run_idxS0 rfl rfl (by omega)) ?_
                simp only [Act.put, List.setIfInBounds_toArray, List.set_cons_succ, List.set_cons_zero]
                refine gq_val (v := .pointer (some a)) (fun _ => trivial) rfl (fun w' hw' => run_fldSl0 rfl) ?_
                simp only [Act.put, List.setIfInBounds_toArray, List.set_cons_succ, List.set_cons_zero]
                refine gq_val (v := .pointer (some ⟨a.block, a.off + 1, none⟩)) (fun _ => trivial) rfl (fun w' hw' => run_fldY rfl) ?_
                simp only [Act.put, List.setIfInBounds_toArray, List.set_cons_succ, List.set_cons_zero]
                refine gq_val (v := .int .i64 t.t.y) (fun _ => trivial) rfl (fun w' hw' => run_loadInt rfl ((hw'.cell (p := ⟨a.block, a.off + 1, none⟩) HTL.out).trans HTC.out)) ?_
                simp only [Act.put, List.setIfInBounds_toArray, List.set_cons_succ, List.set_cons_zero]
                refine gq_val (v := .int .i64 y2) (fun _ => trivial) rfl (fun w' hw' => run_loadInt rfl ((HF3.out.yv.next hw').cell 0)) ?_
                simp only [Act.put, List.setIfInBounds_toArray, List.set_cons_succ, List.set_cons_zero]
                refine gq_val (v := .bool false) (fun _ => trivial) rfl (fun w' hw' => run_leqF rfl rfl hle) ?_
                simp only [Act.put, List.setIfInBounds_toArray, List.set_cons_succ, List.set_cons_zero]
                refine gq_val (v := .bool false) (fun _ => trivial) rfl (fun w' hw' => rfl) ?_
                simp only [Act.put, List.setIfInBounds_toArray, List.set_cons_succ, List.set_cons_zero]
                refine wpQuietIn_nil ?_
                rintro X4 hb4
                go_wp2_with fail
                go_meet
                exact ⟨rfl, hid hb4⟩
            · obtain rfl : GO = false := by rw [HGO.out]; exact decide_eq_false fun h => hk h.1
              refine wpIn_wide.1 (grow_round (F := Fence.wide) (n := 0) (by kernel_rfl) (by kernel_rfl) (by kernel_rfl) ?_)
              refine gq_val (v := .slice Aw2 (W.length - k2) cw2) (fun _ => trivial) rfl (fun w' hw' => rfl) ?_
              simp only [Act.put, List.setIfInBounds_toArray, List.set_cons_succ, List.set_cons_zero]
              refine gq_val (v := .int .i64 ((W.length - k2 : Nat) : Int)) (fun _ => trivial) rfl (fun w' hw' => run_lenS rfl) ?_
              simp only [Act.put, List.setIfInBounds_toArray, List.set_cons_succ, List.set_cons_zero]
              refine gq_val (v := .bool false) (fun _ => trivial) rfl (fun w' hw' => run_gtrF rfl rfl (by omega)) ?_
              simp only [Act.put, List.setIfInBounds_toArray, List.set_cons_succ, List.set_cons_zero]
              refine gq_val (v := .bool false) (fun _ => trivial) rfl (fun w' hw' => rfl) ?_
              simp only [Act.put, List.setIfInBounds_toArray, List.set_cons_succ, List.set_cons_zero]
              refine gq_skip (fun _ => trivial) rfl ?_
              simp only [Act.put, List.setIfInBounds_toArray, List.set_cons_succ, List.set_cons_zero]
              refine gq_skip (fun _ => trivial) rfl ?_
              simp only [Act.put, List.setIfInBounds_toArray, List.set_cons_succ, List.set_cons_zero]
              refine gq_skip (fun _ => trivial) rfl ?_
              simp only [Act.put, List.setIfInBounds_toArray, List.set_cons_succ, List.set_cons_zero]
              refine gq_skip (fun _ => trivial) rfl ?_
              simp only [Act.put, List.setIfInBounds_toArray, List.set_cons_succ, List.set_cons_zero]
              refine gq_skip (fun _ => trivial) rfl ?_
              simp only [Act.put, List.setIfInBounds_toArray, List.set_cons_succ, List.set_cons_zero]
              refine gq_skip (fun _ => trivial) rfl ?_
              simp only [Act.put, List.setIfInBounds_toArray, List.set_cons_succ, List.set_cons_zero]
              refine gq_skip (fun _ => trivial) rfl ?_
              simp only [Act.put, List.setIfInBounds_toArray, List.set_cons_succ, List.set_cons_zero]
              refine gq_val (v := .bool false) (fun _ => trivial) rfl (fun w' hw' => rfl) ?_
              simp only [Act.put, List.setIfInBounds_toArray, List.set_cons_succ, List.set_cons_zero]
              refine wpQuietIn_nil ?_
              rintro X4 hb4
              go_wp2_with fail
              go_meet
              exact ⟨rfl, hid hb4⟩
          case rest =>
            obtain ⟨rfl, HBC⟩ := hcut
            have HF4 := hid (HF3.out.next HBW3.out HBC.out)
            have HRW2 := hid (HRW.out.next HBC.out)
            have HBW4 := hid (show B ≤ wc.heap.size from Nat.le_trans HBW3.out HBC.out.size)
            clear HF3 HRW HBW3
            cases GO with
            | true =>
              obtain ⟨hk, hle⟩ := of_decide_eq_true HGO.out.symm
              have hkd : 0 < (W.drop k2).length := by rw [List.length_drop]; omega
              obtain ⟨a, rfl, hal2, hsa⟩ := HRW2.out.at_ hkd
              have hd0 : (W.drop k2)[0] = W[k2] := by rw [List.getElem_drop]; rfl
              rw [hd0, show a.add (0 * 5) = a by unfold Addr.add; rfl] at hsa
              have HR4 := hid (HR3.out.more hk hle)
              have hal3 : act3.length ≤ 5000000000 := by rw [HR3.out.e]; exact Nat.le_trans (List.length_filter_le _ _) (by rw [List.length_take]; omega)
              have HAL3 := hid hal3
              have HLK := hid hk
              generalize W[k2] = t at hsa HR4
              obtain ⟨c0, c1, c2', c3, c4⟩ := hsa
              obtain ⟨m, hm⟩ : ∃ m, m = W.length - k2 := ⟨_, rfl⟩
              have HM2 := hid hm
              rw [← hm] at hcw2
              have hm0 : 0 < m := by omega
              have hm1 : (1 : Int) ≤ (m : Int) := by omega
              have hm2 : (m : Int) ≤ (cw2 : Int) := by omega
              unfold maxLen at hcm2
              have hc0 : (0 : Int) < (m : Int) := by omega
              clear hd0 hkd hle hk hal3 hal2 HR3
              rw [← hm]
              go_wp2_with (at_builtin; refine wpList_append_Sl (B := B) (xs := act3) (s := t) rfl _ _ rfl HBW4.out rfl rfl HF4.out.ac HAL3.out ?_)
              intro v5 w5 hown hgr
              have HF5 := hid (HF4.out.activ HBW4.out hown hgr)
              have HF6 := hid (HF5.out.wait HLK.out a rfl (W.length - k2 - 1) rfl)
              clear hown hgr HF4 HF5 c0 c1 c2' c3 c4
              by_cases hc1 : cw2 = 1
              · rw [if_pos hc1] at HF6
                subst hc1
                go_wp2_with fail
                go_roundw
                case rel => exact ⟨k2 + 1, act3 ++ [t], _, _, rfl, rfl, HF6, HR4⟩
                case measure => show W.length - k2 - 1 < W.length - k2; have := HLK.out; omega
              · rw [if_neg hc1] at HF6
                go_wp2_with fail
                go_roundw
                case rel => exact ⟨k2 + 1, act3 ++ [t], _, _, rfl, rfl, HF6, HR4⟩
                case measure => show W.length - k2 - 1 < W.length - k2; have := HLK.out; omega
            | false =>
              have HLF := hid (Ref.left HWS.out (show W.length ≤ k2 ∨ ∃ h : k2 < W.length, y2 < W[k2].t.y from by
                by_cases hk : k2 < W.length
                · refine .inr ⟨hk, ?_⟩
                  have := of_decide_eq_false HGO.out.symm
                  rcases Int.lt_or_le y2 W[k2].t.y with h | h
                  · exact h
                  · exact absurd ⟨hk, h⟩ this
                · exact .inl (by omega)))
              have HDN := hid (HR3.out.done HLF.out)
              have HPH := hid (show act3.Perm (hits (edgesL ls) y2) by have := hits_perm HWP.out y2; rwa [HDN.out.1] at this)
              obtain ⟨AS, cS, rfl, -⟩ := HF4.out.st.is
              obtain ⟨A4, c4, rfl, hra⟩ := HF4.out.ac.is
              have HRA := hid hra
              have HO0 := hid HF4.out.st.zero
              have hlm := HR3.out.e
              have hal3 : act3.length ≤ 1000000 := by rw [hlm]; exact Nat.le_trans (List.length_filter_le _ _) (by rw [List.length_take]; omega)
              have HAL3 := hid hal3
              have HHX := hid (show ∀ s ∈ act3, SlIn s ∧ s.hit y2 = true from fun s hs => by
                rw [← HDN.out.1] at hs
                have := List.mem_filter.1 hs
                exact ⟨HIN.out s this.1, this.2⟩)
              clear hra hlm hal3 HGO HLF HRW2 hcw2 hcm2
              go_upto_region 20 with fail
              refine wpIn_wide.1 (grow_tail (F := Fence.wide) (n := 0) 4 (by kernel_rfl) (by kernel_rfl) (by kernel_rfl) ?_)
              simp only [List.take_succ_cons, List.take_zero, List.drop_succ_cons, List.drop_zero]
              refine gq_val (v := .slice AS ss.length cS) (fun _ => trivial) rfl (fun w' hw' => rfl) ?_
              simp only [Act.put, List.setIfInBounds_toArray, List.set_cons_succ, List.set_cons_zero]
              refine gq_val (v := .slice AS 0 cS) (fun _ => trivial) rfl (fun w' hw' => run_sl0T rfl rfl) ?_
              simp only [Act.put, List.setIfInBounds_toArray, List.set_cons_succ, List.set_cons_zero]
              refine gq_val (v := .slice A4 act3.length c4) (fun _ => trivial) rfl (fun w' hw' => rfl) ?_
              simp only [Act.put, List.setIfInBounds_toArray, List.set_cons_succ, List.set_cons_zero]
              refine gq_val (v := .int .i64 y2) (fun _ => trivial) rfl (fun w' hw' => run_loadInt rfl ((HF4.out.yv.next hw').cell 0)) ?_
              simp only [Act.put, List.setIfInBounds_toArray, List.set_cons_succ, List.set_cons_zero]
              refine wpQuietIn_nil ?_
              rintro X4 hb4
              have HF5 := hid (HF4.out.next HBW4.out hb4)
              have HO5 := hid (HO0.out.next hb4)
              have HRA5 := hid (HRA.out.next hb4)
              have HBW5 := hid (Nat.le_trans HBW4.out hb4.size)
              clear hb4 HF4 HO0 HRA HBW4
              gi_wp2_with fail
              refine ⟨trivial, rfl, ?_⟩
              (refine (callsIn_wide.2 (stepsOf_any (.slice AS 0 cS) A4 act3.length c4 act3 y2 B X4 HBW5.out HO5.out rfl HAL3.out HRA5.out (fun a e h => HF5.out.AS _ (by subst e; rfl) ((ob0 AS ss.length 0 cS).trans h)) HHX.out)).mono ?_); rintro e w5 ⟨val, qs, rfl, hperm, hpw, hown, hgr⟩
              have HF6 := hid (HF5.out.step HBW5.out (ob0 AS 0 ss.length cS) hown hgr)
              have HBW6 := hid (Nat.le_trans HBW5.out hgr.size)
              have HQP := hid hperm
              have HQW := hid hpw
              obtain ⟨A6, c6, rfl, hrq⟩ := hown.is
              have HRQ := hid hrq
              have hql : qs.length ≤ 1000000 := by have := hperm.length_eq; rw [List.length_map] at this; have := HAL3.out; omega
              have HQL := hid hql
              have HQD := hid (show ∀ s ∈ qs, -1 ≤ s.d ∧ s.d ≤ 1 from fun s hs => by
                obtain ⟨t, ht, rfl⟩ := List.mem_map.1 (hperm.mem_iff.1 hs)
                exact (HHX.out t ht).1.d)
              clear hperm hpw hown hgr hrq hql HF5 HO5 HRA5 HBW5
              obtain ⟨y0, y1⟩ := HF6.out.yv.read1
              gi_wp2
              go_wp2_with fail
              (with_reducible refine (appendRow_any vF A6 qs.length c6 qs y2 1 true acc B w5 HBW6.out HF6.out.fl (by have := chk_len HU.out.ok; omega) rfl HQL.out HRQ.out HF6.out.FS.row HQD.out rfl).mono ?_); rintro e w6 ⟨vF2, rfl, hown, hgr⟩
              have HF7 := hid (HF6.out.fill HBW6.out hown hgr)
              have HBW7 := hid (Nat.le_trans HBW6.out hgr.size)
              have HU2 := hid (HU.out.row (y := y2) ⟨by omega, hy4⟩ HPH.out HQP.out HQW.out)
              clear hown hgr HF6 HBW6 y0 y1
              obtain ⟨y0, y1⟩ := HF7.out.yv.read1
              have HF8 := hid (HF7.out.newY HBW7.out (y2 + 1))
              go_wp2_with fail
              go_roundw
              case rel => exact ⟨y2 + 1, _, k2, act3, _, qs, _, _, _, _, rfl, rfl, rfl, rfl, rfl, by omega, by omega, HF8, hid HDN.out.2, HU2⟩
              case measure =>
                rw [HMY.out, ptrInt_is (z := y2 + 1) (HF8.out.yv.cell 0)]
                omega
    · have hy8 : y = 8192 := by omega
      subst hy8
      go_wp2_with fail
      go_ret2
      exact ⟨⟨vF, acc, rfl, HU.out.whole (Int.le_refl _), HBE.out ▸ HF.out.fl⟩, HBE.out ▸ HF.out.be⟩
end Go.Proofs.Ytijkoaggcmgjiaa

/- Union, Intersect, Minus, Xor of package region. -/
namespace Go.Proofs.Ytijkoaggcmgjiaa
open Go Go.RowKit
set_option linter.unusedVariables false

theorem combine_any (K : FuncId) (keep : Bool → Bool → Bool) (hK : Enters Try.prog K) (hk : ∀ a b w, Calls Try.prog K #[.bool a, .bool b] w fun e w' => e = .returned (.bool (keep a b)) ∧ w = w') (h0 : keep false false = false)
    (A A' : Option Addr) (xs ys : List Rn) (n c m c' : Nat) (w : World) (hn : n = xs.length) (hm : m = ys.length) (hnl : n ≤ maxLen) (hml : m ≤ maxLen) (hx : Runs w A xs) (hy : Runs w A' ys) :
    Calls Try.prog 59 #[.slice A n c, .slice A' m c', .func (.func K) #[] #[]] w (GivesOp keep xs ys w) := by
  by_cases h1 : chk xs = 0
  · by_cases h2 : chk ys = 0
    · exact combine_good K keep hK hk h0 A A' xs ys n c m c' w hn hm hx hy h1 h2
    · exact combine_bad2 K keep A A' xs ys n c m c' w hn hm hnl hml hx hy h1 h2
  · exact combine_bad1 K keep A A' xs ys n c m c' w hn hnl hx h1

theorem xorK (a b : Bool) (w : World) : Calls Try.prog 60 #[.bool a, .bool b] w fun e w' => e = .returned (.bool (a != b)) ∧ w = w' := by
  cases a <;> cases b
  all_goals
    go_enter Try.func60, Try.ntmps60
    go_wp2
    go_ret
    exact ⟨rfl, rfl⟩
theorem enters_xorK : Enters Try.prog 60 := enters_of Try.func60 (by kernel_rfl) rfl
theorem xor_any (A A' : Option Addr) (xs ys : List Rn) (n c m c' : Nat) (w : World) (hn : n = xs.length) (hm : m = ys.length) (hnl : n ≤ maxLen) (hml : m ≤ maxLen) (hx : Runs w A xs) (hy : Runs w A' ys) :
    Calls Try.prog 23 #[.slice A n c, .slice A' m c'] w (GivesOp (fun a b => a != b) xs ys w) := by
  have HX := hid hx
  have HY := hid hy
  have HN := hid hn
  have HM := hid hm
  clear hx hy hn hm
  go_enter Try.func23, Try.ntmps23
  go_wp2_with fail
  (with_reducible refine (combine_any _ (fun a b => a != b) enters_xorK xorK rfl A A' xs ys n c m c' _ HN.out HM.out hnl hml HX.out HY.out).mono ?_); rintro e w1 ⟨v, res, rfl, ho, hb, h1, h2⟩
  have HO := hid ho
  have HB := hid hb
  have H1 := hid h1
  have H2 := hid h2
  clear ho hb h1 h2
  go_wp2_with fail
  go_ret2
  exact ⟨v, res, rfl, HO.out, HB.out, H1.out, H2.out⟩

end Go.Proofs.Ytijkoaggcmgjiaa

/- slices.Grow and slices.Concat on lines. -/
namespace Go.Proofs.Ytijkoaggcmgjiaa
open Go Go.RowKit
attribute [local go_sem] Oper.semAt_some
set_option linter.unusedVariables false
set_option linter.unusedSimpArgs false

theorem own_zeros (w : World) (cur : Array Value) (cap : Nat) (hc : cap ≤ maxLen) (hs : cur.size = cap * 2) : (w.alloc (.cells cur 38)).ownsRow w.heap.size 38 2 (.slice (some ⟨w.heap.size, 0, none⟩) 0 cap) 0 [] :=
  ⟨rfl, .inr ⟨w.heap.size, cap, cur, rfl, Nat.le_refl _, World.alloc_heap_new w _, Nat.zero_le _, hc, hs, by simp⟩⟩
theorem grow_zeros (w : World) (k : Nat) (ty : TypeId) (h0 : 0 < k) (hk : k ≤ 1000) :
    ∃ cap w', (Builtin.append_ #[22, 3] ty #[.slice none 0 0, .int .i64 (k : Int)]).run Try.prog w = .ok (.slice (some ⟨w.heap.size, 0, none⟩) k cap) w' ∧ k ≤ cap ∧ w'.ownsRow w.heap.size 38 2 (.slice (some ⟨w.heap.size, 0, none⟩) 0 cap) 0 [] ∧ Below w.heap.size w w' := by
  obtain ⟨i0, hi, hz0, hz1, hz2⟩ := info_parts infoLe
  have hr := Lib.run_append_nil_zeros (P := Try.prog) w 22 3 ty 38 i0 _ .i64 .i64 Try.underlying22 Try.underlying3 hi hz0 k h0 (by rw [hz1]; decide) (by omega) (by rw [hz2]; omega)
  have hg := grownCap_ge w k 0 38
  have hm := grownCap_le_maxLen w k 0 38 (by unfold maxLen; omega)
  refine ⟨_, _, hr, hg, ?_, ((Below.refl w.heap.size w).drew).alloc (Nat.le_refl _) _⟩
  have := own_zeros w.drew (Builtin.zeroCells (Value.agg #[.slice none 0 0, .bool false]).cells k ++ Builtin.zeroCells (Value.agg #[.slice none 0 0, .bool false]).cells (grownCap w k 0 38 - k)) _ hm (by
    rw [Array.size_append, size_zeroCells, size_zeroCells]
    show k * 2 + (_ - k) * 2 = _
    omega)
  exact this
theorem wpList_grow {ops : Array Oper} {rest : List Oper} {o : Oper} {a : Act} {Q : Exit → Act → World → Prop} {w : World} {k : Nat} (hgd : o.guard = none) (y x : Operand)
    (ho : o.op = .call { callee := .builtin .append, args := #[y, x], argTypes := #[22, 3] }) (hs : a.eval y = .slice none 0 0) (hx : a.eval x = .int .i64 (k : Int)) (h0 : 0 < k) (hk : k ≤ 1000)
    (K : ∀ cap w', k ≤ cap → w'.ownsRow w.heap.size 38 2 (.slice (some ⟨w.heap.size, 0, none⟩) 0 cap) 0 [] → Below w.heap.size w w' → wpList Try.prog ops Q rest (a.put o.dst (.slice (some ⟨w.heap.size, 0, none⟩) k cap)) w') : wpList Try.prog ops Q (o :: rest) a w := by
  obtain ⟨cap, w', h1, h2, h3, h4⟩ := grow_zeros w k o.type h0 hk
  refine wpList_plain hgd fun K' hK' => ?_
  simp [Oper.wp, execOp, ho, resolve, invoke, builtin, hs, hx, h1, Result.andThen]
  exact hK' _ _ (K cap w' h2 h3 h4)
/-- append of a row of lines. -/
theorem append_les {w : World} {B : Nat} {v : Value} {xs es : List LE} {A : Option Addr} {n c : Nat} {ty : TypeId} (hB : B ≤ w.heap.size) (h : OwnE w B v xs) (hn : n = es.length) (he : LnsE w A es) (ho : ∀ e ∈ es, OldP w B e) (hl : xs.length + es.length ≤ 1000000) :
    ∃ v' w', (Builtin.append_ #[22, 22] ty #[v, .slice A n c]).run Try.prog w = .ok v' w' ∧ OwnE w' B v' (xs ++ es) ∧ Gr v v' w w' := by
  obtain ⟨i0, hi, hz0, hz1, hz2⟩ := info_parts infoLe
  by_cases h0 : es = []
  · subst h0
    obtain rfl : n = 0 := by simpa using hn
    obtain ⟨A0, c0, rfl, -⟩ := h.lns
    have hcap : xs.length ≤ c0 := by
      rcases h.r.2 with ⟨h1, h2⟩ | ⟨g, cap, cur, h1, -, -, h5, -⟩
      · omega
      · cases h1; exact h5
    refine ⟨.slice A0 xs.length c0, w, ?_, by simpa using h, Gr.refl _ _⟩
    have ht := Try.underlying22
    have hf : (Builtin.firstCells i0.size 0 (.slice A 0 c)).run Try.prog w = .ok #[] w := by
      cases A with
      | none => exact run_firstCells_none ..
      | some a => exact run_firstCells_some _ i0.size 0 a 0 c [] (by simp) (fun j v h => by simp at h)
    cases A0 <;> simp [Builtin.append_, run_underlying ht, sizeOf, typeInfo, hi, hcap, storeCells, Builtin.lenOf, hf]
  · obtain ⟨a, rfl, hal, hat⟩ := he h0
    have hcell : ∀ j u, (lflE es)[j]? = some u → w.cell? (a.add j) = some u := fun j u hu => by
      have hj : j < es.length * 2 := by
        rcases Nat.lt_or_ge j (es.length * 2) with k | k
        · exact k
        · rw [List.getElem?_eq_none (by rw [lflE_length]; exact k)] at hu; cases hu
      obtain ⟨q, r, rfl, hr⟩ : ∃ q r, j = q * 2 + r ∧ r < 2 := ⟨j / 2, j % 2, by omega, by omega⟩
      have hq : q < es.length := by omega
      have h1 := hat q _ (List.getElem?_eq_getElem hq)
      have h2 := lflE_get es q _ (List.getElem?_eq_getElem hq)
      rcases (show r = 0 ∨ r = 1 by omega) with rfl | rfl
      · exact h1.c0.trans (h2.1.symm.trans hu)
      · have e : (⟨(a.add (q * 2)).block, (a.add (q * 2)).off + 1, none⟩ : Addr) = a.add (q * 2 + 1) := by
          unfold Addr.add; split <;> simp_all <;> omega
        rw [← e]
        exact h1.c1.trans (h2.2.symm.trans hu)
    obtain ⟨g, c', w', h1, h2, h3, h4, h5⟩ := run_append_lies (P := Try.prog) (w := w) 22 ty B 38 i0 _ 2 32 Try.underlying22 hi hz0 hz1 hz2 rfl (by decide) v xs.length (lflE xs) h.r
      a n c (lflE es) (by rw [lflE_length, hn]) hcell (fun u hu => by
        unfold lflE at hu
        obtain ⟨e, -, h⟩ := List.mem_flatMap.1 hu
        simp only [List.mem_cons, List.not_mem_nil, or_false] at h
        rcases h with rfl | rfl <;> rfl) (by rw [hn]; exact List.length_pos_iff.2 h0) (by unfold maxLen; omega) (by omega) hB _ rfl
    have hgr : Gr v (.slice (some ⟨g, 0, none⟩) (xs.length + n) c') w w' := ⟨h3, fun k hk => by
      have : g = k := by simpa [Value.ownBlock] using hk
      rcases h4 with h4 | h4
      · exact .inl (by rw [h4, this])
      · exact .inr (by omega)⟩
    have hbel : Below B w w' := hgr.below hB fun k hk => (World.ownsRow.lt h.r k hk).1
    refine ⟨_, w', h1, ⟨?_, fun x hx => ?_⟩, hgr⟩
    · rw [lflE_append, List.length_append, ← hn]
      exact h2
    · rcases List.mem_append.1 hx with hx | hx
      · exact (h.p x hx).below hbel
      · exact (ho x hx).below hbel
theorem wpList_append_les {ops : Array Oper} {rest : List Oper} {o : Oper} {a : Act} {Q : Exit → Act → World → Prop} {w : World} {B n c : Nat} {A : Option Addr} {v : Value} {xs es : List LE} (hgd : o.guard = none) (y x : Operand)
    (ho : o.op = .call { callee := .builtin .append, args := #[y, x], argTypes := #[22, 22] }) (hB : B ≤ w.heap.size) (hs : a.eval y = v) (hx : a.eval x = .slice A n c)
    (h : OwnE w B v xs) (hn : n = es.length) (he : LnsE w A es) (hol : ∀ e ∈ es, OldP w B e) (hl : xs.length + es.length ≤ 1000000)
    (k : ∀ v' w', OwnE w' B v' (xs ++ es) → Gr v v' w w' → wpList Try.prog ops Q rest (a.put o.dst v') w') : wpList Try.prog ops Q (o :: rest) a w := by
  obtain ⟨v', w', h1, h2, h3⟩ := append_les (ty := o.type) hB h hn he hol hl (c := c)
  refine wpList_plain hgd fun K hK' => ?_
  simp [Oper.wp, execOp, ho, resolve, invoke, builtin, hs, hx, h1, Result.andThen]
  exact hK' _ _ (k v' w' h2 h3)

set_option maxRecDepth 100000 in
set_option maxHeartbeats 4000000 in
theorem kgrow_any (k : Nat) (w : World) (hk : k ≤ 1000) :
    Calls Try.prog 58 #[.slice none 0 0, .int .i64 (k : Int)] w fun e w' => (∃ v, e = .returned v ∧ OwnE w' w.heap.size v []) ∧ Below w.heap.size w w' := by
  go_enter Try.func58, Try.ntmps58
  by_cases h0 : 0 < k
  · have h0i : (0 : Int) < (k : Int) := by omega
    go_wp2_with (at_builtin; refine wpList_grow (k := k) rfl _ _ rfl rfl rfl h0 hk ?_)
    intro cap w' hc hown hb
    have HO := hid hown
    have HB := hid hb
    clear hown hb
    go_wp2_with fail
    go_ret
    exact ⟨⟨_, rfl, HO.out, fun e h => (by cases h)⟩, HB.out⟩
  · have hk0 : k = 0 := by omega
    subst hk0
    go_wp2_with fail
    go_ret
    exact ⟨⟨_, rfl, OwnE.nil _ _⟩, Below.refl _ _⟩
theorem lnsE_old {w : World} {A : Option Addr} {es : List LE} (h : LnsE w A es) : ∀ e ∈ es, OldP w w.heap.size e := fun e he => by
  obtain ⟨i, hi, hei⟩ := List.mem_iff_getElem.1 he
  obtain ⟨a, -, -, hat⟩ := h.at_ hi
  rw [hei] at hat
  obtain ⟨-, -, hp, hle⟩ := hat
  refine ⟨hp, fun hne a ha => ?_, hle⟩
  obtain ⟨a', ha', hl, -⟩ := hp hne
  rw [ha] at ha'
  cases ha'
  exact hl
set_option maxRecDepth 100000 in
set_option maxHeartbeats 4000000 in
theorem kcat_any (b : Nat) (A A' : Option Addr) (xs ys : List LE) (n c m c' : Nat) (t : TypeId) (w : World) (hn : n = xs.length) (hm : m = ys.length) (hn4 : n ≤ 4) (hm4 : m ≤ 4) (hV : Var w b #[.slice A n c, .slice A' m c'] t) (hx : LnsE w A xs) (hy : LnsE w A' ys) :
    Calls Try.prog 22 #[.slice (some ⟨b, 0, none⟩) 2 2] w fun e w' => (∃ A2 c2, e = .returned (.slice A2 (n + m) c2) ∧ LnsE w' A2 (xs ++ ys)) ∧ Below w.heap.size w w' := by
  have HV := hid hV
  have HX := hid hx
  have HY := hid hy
  have HN := hid hn
  have HM := hid hm
  clear hV hx hy hn hm
  go_enter Try.func22, Try.ntmps22
  go_wp2_with fail
  go_loopw [3, 11] (fun s3 s11 wr => ∃ (i : Nat) (S : Nat), s11 = .int .i64 (i : Int) ∧ s3 = .int .i64 (S : Int) ∧ w = wr ∧ (i = 0 ∧ 0 = S ∨ i = 1 ∧ n = S ∨ i = 2 ∧ n + m = S)) (fun _ s11 _ => 2 - (intOf s11).toNat)
  case atStart => exact ⟨0, 0, rfl, rfl, rfl, .inl ⟨rfl, rfl⟩⟩
  case round =>
    obtain ⟨i, S, rfl, rfl, rfl, hi⟩ := hrel
    obtain ⟨v0, v1, vf⟩ := HV.out.read2
    rcases hi with ⟨rfl, rfl⟩ | ⟨rfl, rfl⟩ | ⟨rfl, rfl⟩
    · have hn0 : ¬ (n : Int) < 0 := by omega
      go_wp2_with fail
      go_roundw
      case rel => exact ⟨1, n, by go_num, by go_num, by simp, .inr (.inl ⟨rfl, rfl⟩)⟩
      case measure => simp [intOf]
    · have hn0 : ¬ (n : Int) + (m : Int) < 0 := by omega
      go_wp2_with fail
      go_roundw
      case rel => exact ⟨2, n + m, by go_num, by go_num, by simp, .inr (.inr ⟨rfl, rfl⟩)⟩
      case measure => simp [intOf]
    · go_wp2_with fail
      rw [show ((n : Int) + (m : Int)) = ((n + m : Nat) : Int) by omega]
      (with_reducible refine (kgrow_any (n + m) _ (by omega)).mono ?_); rintro e w1 ⟨⟨v, rfl, ho⟩, hb⟩
      have HO := hid ho
      have HB := hid hb
      have HOX := hid (lnsE_old HX.out)
      have HOY := hid (lnsE_old HY.out)
      clear ho hb v0 v1 vf
      go_wp2_with fail
      go_loopw [6, 27] (fun s6 s27 wr => ∃ (i : Nat) (v : Value) (zs : List LE), v = s6 ∧ s27 = .int .i64 (i : Int) ∧ Hid (OwnE wr w.heap.size v zs) ∧ Hid (Below w.heap.size w wr) ∧ (i = 0 ∧ zs = [] ∨ i = 1 ∧ zs = xs ∨ i = 2 ∧ zs = xs ++ ys)) (fun _ s27 _ => 2 - (intOf s27).toNat)
      case atStart => exact ⟨0, _, [], rfl, rfl, HO, HB, .inl ⟨rfl, rfl⟩⟩
      case round =>
        clear HO HB
        obtain ⟨wx, rfl⟩ : ∃ wx, wx = wr := ⟨_, rfl⟩
        obtain ⟨i, v, zs, rfl, rfl, HO, HB, hi⟩ := hrel
        obtain ⟨v0, v1, vf⟩ := (HV.out.next HB.out).read2
        have HBW := hid HB.out.size
        have hxl : xs.length ≤ 4 := by have := HN.out; omega
        have hyl : ys.length ≤ 4 := by have := HM.out; omega
        rcases hi with ⟨rfl, rfl⟩ | ⟨rfl, rfl⟩ | ⟨rfl, rfl⟩
        · have HLX := hid (HX.out.next HB.out)
          have HOX2 := hid (fun e he => (HOX.out e he).below HB.out)
          go_wp2_with (at_builtin; refine wpList_append_les (B := w.heap.size) (xs := []) (es := xs) rfl _ _ rfl HBW.out rfl rfl HO.out HN.out HLX.out HOX2.out (by simp; omega) ?_)
          intro v5 w5 hown hgr
          have HO5 := hid hown
          have HB5 := hid (HB.out.trans (hgr.below HBW.out fun k hk => (World.ownsRow.lt HO.out.r k hk).1))
          clear hown hgr
          go_wp2_with fail
          go_roundw
          case rel => exact ⟨1, v5, xs, rfl, by go_num, HO5, HB5, .inr (.inl ⟨rfl, rfl⟩)⟩
          case measure => simp [intOf]
        · have HLY := hid (HY.out.next HB.out)
          have HOY2 := hid (fun e he => (HOY.out e he).below HB.out)
          go_wp2_with (at_builtin; refine wpList_append_les (B := w.heap.size) (xs := zs) (es := ys) rfl _ _ rfl HBW.out rfl rfl HO.out HM.out HLY.out HOY2.out (by omega) ?_)
          intro v5 w5 hown hgr
          have HO5 := hid hown
          have HB5 := hid (HB.out.trans (hgr.below HBW.out fun k hk => (World.ownsRow.lt HO.out.r k hk).1))
          clear hown hgr
          go_wp2_with fail
          go_roundw
          case rel => exact ⟨2, v5, zs ++ ys, rfl, by go_num, HO5, HB5, .inr (.inr ⟨rfl, rfl⟩)⟩
          case measure => simp [intOf]
        · obtain ⟨A2, c2, rfl, hL⟩ := HO.out.lns
          have HLL := hid hL
          have HLN := hid (show (xs ++ ys).length = n + m by rw [List.length_append, HN.out, HM.out])
          clear hL
          go_wp2_with fail
          go_ret
          exact ⟨⟨A2, c2, by rw [← HLN.out]; rfl, HLL.out⟩, HB.out⟩
end Go.Proofs.Ytijkoaggcmgjiaa

/- FillEvenOddXor. -/
namespace Go.Proofs.Ytijkoaggcmgjiaa
open Go Go.RowKit
attribute [local go_sem] Oper.semAt_some
set_option linter.unusedVariables false
set_option linter.unusedSimpArgs false

theorem wind_append (ls ms : List Ln) (x y : Int) : wind (ls ++ ms) x y = wind ls x y + wind ms x y := by
  unfold wind edgesL
  rw [List.flatMap_append, List.map_append, sumI_append]
theorem edgesL_append (ls ms : List Ln) : (edgesL (ls ++ ms)).length = (edgesL ls).length + (edgesL ms).length := by
  unfold edgesL
  rw [List.flatMap_append, List.length_append]
theorem lchk_append {ls ms : List Ln} (h : lchk ls = 0) (k : lchk ms = 0) : lchk (ls ++ ms) = 0 := by
  refine lchk_t ?_
  unfold lok
  rw [List.all_append]
  have h1 := lok_of h
  have h2 := lok_of k
  unfold lok at h1 h2
  rw [h1, h2]
  rfl
theorem isF_odd (n : Int) : isF true n = decide (n % 2 = 1) := by
  unfold isF
  have h := Int.emod_two_eq n
  have e : n.tmod 2 = 0 ↔ n % 2 = 0 := by
    rw [← Int.dvd_iff_tmod_eq_zero, Int.dvd_iff_emod_eq_zero]
  rcases h with h | h
  · have := e.2 h
    simp [this, h]
  · have : n.tmod 2 ≠ 0 := fun k => by have := e.1 k; omega
    simp [this, h]
theorem isF_xor (a b : Int) : isF true (a + b) = (isF true a != isF true b) := by
  rw [isF_odd, isF_odd, isF_odd]
  rcases Int.emod_two_eq a with ha | ha <;> rcases Int.emod_two_eq b with hb | hb
  · simp [ha, hb, show (a + b) % 2 = 0 by omega]
  · simp [ha, hb, show (a + b) % 2 = 1 by omega]
  · simp [ha, hb, show (a + b) % 2 = 1 by omega]
  · simp [ha, hb, show (a + b) % 2 = 0 by omega]
theorem xor_filled {ls ms : List Ln} {a b both res : List Rn} (ha : Filled true ls a) (hb : Filled true ms b) (hc : Filled true (ls ++ ms) both) (hr : IsOp (fun a b => a != b) a b res) : both = res :=
  has_inj hc.1 hr.v fun x y => by
    rw [hc.2, hr.h, ha.2, hb.2, wind_append, isF_xor]
    cases decide (-8192 ≤ x ∧ x ≤ 8191 ∧ -8192 ≤ y ∧ y ≤ 8191) <;> simp

set_option maxRecDepth 100000 in
set_option maxHeartbeats 8000000 in
theorem kxo_law (A A0 : Option Addr) (n c n0 c0 : Nat) (ls ms : List Ln) (w : World) (hn : n = ls.length) (hs : Lns w A ls) (hm : n ≤ maxLen) (hn0 : n0 = ms.length) (hs0 : Lns w A0 ms) (hm0 : n0 ≤ maxLen) :
    Calls Try.prog 5 #[.slice A n c, .slice A0 n0 c0] w fun e w' => e = .returned (.bool true) ∧ Below w.heap.size w w' := by
  have HS := hid hs
  have HN := hid hn
  have HM := hid hm
  have HS0 := hid hs0
  have HN0 := hid hn0
  have HM0 := hid hm0
  clear hs hn hm hs0 hn0 hm0
  go_enter Try.func5, Try.ntmps5
  go_wp2_with fail
  (with_reducible refine (kfills_any _).mono ?_); rintro e w1 ⟨rfl, hb⟩
  have HB1 := hid hb
  clear hb
  go_wp2_with fail
  obtain ⟨es, hes, hE⟩ := HS.out.ext
  have hnE : n = es.length := by have := HN.out; rw [this, ← hes, List.length_map]
  (with_reducible refine (kfew_any A es n c 300 _ hnE HM.out (hE.next HB1.out) (by decide)).mono ?_); rintro e w2 ⟨⟨A', c', es', rfl, hE2, hL2⟩, hb⟩
  rw [hes] at hL2
  have HB2 := hid (below_next HB1.out hb)
  have HL := hid (show es'.map LE.ln = fewL 300 ls from hL2)
  have HE := hid hE2
  clear hb hL2 hE2 hnE hE hes es
  go_wp2_with fail
  obtain ⟨es, hes, hE⟩ := HS0.out.ext
  have hnE : n0 = es.length := by have := HN0.out; rw [this, ← hes, List.length_map]
  (with_reducible refine (kfew_any A0 es n0 c0 300 _ hnE HM0.out (hE.next HB2.out) (by decide)).mono ?_); rintro e w3 ⟨⟨A1, c1, es1, rfl, hE2, hL2⟩, hb⟩
  rw [hes] at hL2
  have HB3 := hid (below_next HB2.out hb)
  have HL1 := hid (show es1.map LE.ln = fewL 300 ms from hL2)
  have HE1 := hid hE2
  have HE3 := hid (HE.out.next hb)
  clear hb hL2 hE2 hnE hE hes es HS HM HN HS0 HM0 HN0 HB1 HB2 HE
  obtain ⟨L, hL⟩ : ∃ L, L = fewL 300 ls := ⟨_, rfl⟩
  obtain ⟨M, hM⟩ : ∃ M, M = fewL 300 ms := ⟨_, rfl⟩
  have HOK := hid (few_ok (m := 300) (by decide) ls)
  have HED := hid (few_edges 300 ls)
  have hlen := few_len 300 ls
  have HOM := hid (few_ok (m := 300) (by decide) ms)
  have HEM := hid (few_edges 300 ms)
  have hlem := few_len 300 ms
  rw [← hL] at HOK HED HL hlen
  rw [← hM] at HOM HEM HL1 hlem
  clear hL hM
  obtain ⟨k, hk⟩ : ∃ k, k = es'.length := ⟨_, rfl⟩
  obtain ⟨m, hm⟩ : ∃ m, m = es1.length := ⟨_, rfl⟩
  rw [← hk, ← hm]
  have HK := hid hk
  have HM := hid hm
  have hk4 : k ≤ 4 := by have := congrArg List.length HL.out; rw [List.length_map] at this; omega
  have hm4 : m ≤ 4 := by have := congrArg List.length HL1.out; rw [List.length_map] at this; omega
  have HKL := hid (show k = L.length by rw [HK.out, ← HL.out, List.length_map])
  have HML := hid (show m = M.length by rw [HM.out, ← HL1.out, List.length_map])
  clear hk hm hlen hlem
  go_wp2_with fail
  (with_reducible refine (fill_E A' L k c' _ HKL.out (by unfold maxLen; omega) (HL.out ▸ HE3.out.lns) HOK.out (by have := HED.out; omega)).mono ?_); rintro e w4 ⟨⟨v, ra, rfl, hF, hown⟩, hb⟩
  have HB4 := hid (below_next HB3.out hb)
  have HFA := hid hF
  have HOA := hid hown
  have HE4 := hid (HE3.out.next hb)
  have HM4 := hid (HE1.out.next hb)
  clear hF hown hb HB3 HE3 HE1
  go_wp2_with fail
  (with_reducible refine (fill_E A1 M m c1 _ HML.out (by unfold maxLen; omega) (HL1.out ▸ HM4.out.lns) HOM.out (by have := HEM.out; omega)).mono ?_); rintro e w5 ⟨⟨v2, rb, rfl, hF, hown⟩, hb⟩
  have HB5 := hid (below_next HB4.out hb)
  have HFB := hid hF
  have HOB := hid hown
  have HOA5 := hid (HOA.out.next hb)
  have HE5 := hid (HE4.out.next hb)
  have HM5 := hid (HM4.out.next hb)
  clear hF hown hb HB4 HE4 HM4 HOA
  go_wp2_with fail
  have hbe := (Below.refl _ w5).alloc (Nat.le_refl _) (.cells #[.slice A' k c', .slice A1 m c1] 22)
  (with_reducible refine (kcat_any w5.heap.size A' A1 es' es1 k c' m c1 22 _ HK.out HM.out hk4 hm4 (Var.new w5 _ _ _ rfl) (HE5.out.next hbe) (HM5.out.next hbe)).mono ?_); rintro e w6 ⟨⟨A2, c2, rfl, hC⟩, hb⟩
  have HB6 := hid (below_next (below_next HB5.out hbe) hb)
  have HOA6 := hid ((HOA5.out.next hbe).next hb)
  have HOB6 := hid ((HOB.out.next hbe).next hb)
  have HLC := hid (show Lns w6 A2 (L ++ M) by have := hC.lns; rwa [List.map_append, HL.out, HL1.out] at this)
  clear hbe hb hC HB5 HOA5 HOB HE5 HM5
  go_wp2_with fail
  (with_reducible refine (fill_E A2 (L ++ M) (k + m) c2 _ (by rw [List.length_append, ← HKL.out, ← HML.out]) (by unfold maxLen; omega) HLC.out (lchk_append HOK.out HOM.out) (by rw [edgesL_append]; have := HED.out; have := HEM.out; omega)).mono ?_); rintro e w7 ⟨⟨v3, rc, rfl, hF, hown⟩, hb⟩
  have HB7 := hid (below_next HB6.out hb)
  have HFC := hid hF
  obtain ⟨Aa, ca, rfl, hra⟩ := (HOA6.out.next hb).is
  obtain ⟨Ab, cb, rfl, hrb⟩ := (HOB6.out.next hb).is
  have HRA := hid hra
  have HRB := hid hrb
  have HOC := hid hown
  have HLA := hid (chk_len HFA.out.1)
  have HLB := hid (chk_len HFB.out.1)
  have HLCC := hid (chk_len HFC.out.1)
  clear hF hown hb hra hrb HOA6 HOB6 HB6 HLC
  obtain ⟨na, hna⟩ : ∃ na, na = ra.length := ⟨_, rfl⟩
  obtain ⟨nb, hnb⟩ : ∃ nb, nb = rb.length := ⟨_, rfl⟩
  rw [← hna, ← hnb]
  have HNA := hid hna
  have HNB := hid hnb
  clear hna hnb
  go_wp2_with fail
  (with_reducible refine (xor_any Aa Ab ra rb na ca nb cb _ HNA.out HNB.out (by have := HLA.out; have := HNA.out; unfold maxLen; omega) (by have := HLB.out; have := HNB.out; unfold maxLen; omega) HRA.out HRB.out).mono ?_); rintro e w8 ⟨v4, res, rfl, hown, hb, hop, -⟩
  have hpe : pairE ra rb = 0 := by unfold pairE; rw [HFA.out.1, HFB.out.1]; rfl
  have HIS := hid (hop hpe)
  rw [hpe]
  have HB8 := hid (below_next HB7.out hb)
  obtain ⟨Ac, cc, rfl, hrc⟩ := (HOC.out.next hb).is
  obtain ⟨Ad, cd, rfl, hrd⟩ := hown.is
  have HRC := hid hrc
  have HRD := hid hrd
  have hEQ := xor_filled HFA.out HFB.out HFC.out HIS.out
  subst hEQ
  obtain ⟨nc, hnc⟩ : ∃ nc, nc = rc.length := ⟨_, rfl⟩
  rw [← hnc]
  have HNC := hid hnc
  clear hop hpe hb hown hrc hrd hnc HB7 HOC HRA HRB
  go_wp2_with fail
  (with_reducible refine (equal_any Ac Ad nc cc nc cd rc rc _ HNC.out HNC.out (by have := HLCC.out; have := HNC.out; unfold maxLen; omega) (by have := HLCC.out; have := HNC.out; unfold maxLen; omega) HRC.out HRD.out).mono ?_); rintro e w9 ⟨rfl, hb⟩
  have HB9 := hid (below_next HB8.out hb)
  clear hb
  rw [show decide (rc = rc) = true by simp]
  go_wp2_with fail
  go_ret
  exact ⟨rfl, HB9.out⟩
end Go.Proofs.Ytijkoaggcmgjiaa
