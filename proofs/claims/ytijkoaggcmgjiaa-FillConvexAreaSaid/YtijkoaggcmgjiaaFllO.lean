/- fill.Fill with the rule NonZero (written by r9_fll.py). -/
import Derived.Test.YtijkoaggcmgjiaaFst
namespace Go.Proofs.Ytijkoaggcmgjiaa
open Go Go.RowKit
attribute [local go_sem] Oper.semAt_some
set_option linter.unusedVariables false
set_option linter.unusedSimpArgs false

set_option maxRecDepth 100000 in
set_option maxHeartbeats 16000000 in
theorem fill_O (A : Option Addr) (ls : List Ln) (n c : Nat) (w : World) (hn : n = ls.length) (hl : n ≤ maxLen) (hs : Lns w A ls) (hok : lchk ls = 0) (hlen : (edgesL ls).length ≤ 1000000) :
    Calls Try.prog 13 #[.slice A n c, .int .i64 0] w (GivesF false ls w) := by
  obtain ⟨es, rfl, hE⟩ := hs.ext
  have HS := hid hs
  have HE := hid hE
  have HN := hid hn
  have HM := hid hl
  have HLE := hid hlen
  have hne' : n = es.length := by simpa using hn
  have HNE := hid hne'
  clear hs hE hn hlen hne' hl
  go_enter Try.func13, Try.ntmps13
  go_wp2_with fail
  (with_reducible refine (fcheck_any A (es.map LE.ln) n c _ HN.out HM.out HS.out).mono ?_); rintro e w1 ⟨rfl, hb⟩
  rw [hok]
  have HB1 := hid hb
  clear hb
  go_wp2_with fail
  (with_reducible refine (psl_any A es n c _ HNE.out HM.out (HE.out.next HB1.out) HLE.out).mono ?_); rintro e w2 ⟨⟨v0, W, rfl, hown, hperm, hsort⟩, hb⟩
  have HB2 := hid (below_next HB1.out hb)
  have HO0 := hid (hown.mono HB1.out.size)
  have HWP := hid hperm
  have HWS := hid hsort
  have hwl : W.length ≤ 1000000 := by have h1 := hperm.length_eq; have h2 := perL_len (edgesL (es.map LE.ln)); have := HLE.out; omega
  have HPER := hid (show ∀ s ∈ W, perS s = true from fun s hs => by
    have h1 := hperm.mem_iff.1 hs
    unfold perL at h1
    exact (List.mem_filter.1 h1).2)
  have HIN := hid (show ∀ s ∈ W, SlIn s from fun s hs => by
    have h1 := hperm.mem_iff.1 hs
    unfold perL at h1
    obtain ⟨e, he, rfl⟩ := List.mem_map.1 (List.mem_filter.1 h1).1
    have := edges_mem (lok_all (lok_of hok)) e he
    exact slp_in this.1 this.2)
  clear hb hown hperm hsort
  generalize es.map LE.ln = ls at *
  obtain ⟨B, hBe⟩ : ∃ B, B = w.heap.size := ⟨_, rfl⟩
  have HST := hid (show FSt B w (w2.alloc (.cells #[.int .i64 (-8192)] 3)) W w2.heap.size (-8192) v0 (.slice none 0 0) (.slice none 0 0) (.slice none 0 0) 0 [] [] [] by rw [hBe]; exact FSt.start HB2.out HO0.out)
  have HBE := hid hBe
  clear hBe HO0
  go_wp2_with fail
  go_loopw [7, 8, 9, 10, 11] (fun s7 s8 s9 s10 s11 wr => ∃ (y : Int) (b k : Nat) (act : List Sl) (acc : List Rn) (ss : List Stp) (vW vF vA vS : Value), vW = s7 ∧ vF = s8 ∧ vA = s9 ∧ vS = s10 ∧ s11 = .pointer (some ⟨b, 0, none⟩) ∧ -8192 ≤ y ∧ y ≤ 8192 ∧ Hid (FSt B w wr W b y vW vF vA vS k act acc ss) ∧ Hid (Actv W act k y) ∧ Hid (UpTo false ls y acc)) (fun _ _ _ _ s11 wr => (8192 - ptrInt wr s11).toNat)
  case atStart => exact ⟨-8192, _, 0, [], [], [], _, _, _, _, rfl, rfl, rfl, rfl, rfl, by omega, by omega, HST, hid (Actv.start W), hid (UpTo.start _ _)⟩
  case round =>
    clear HST
    obtain ⟨wo, rfl⟩ : ∃ wo, wo = wr := ⟨_, rfl⟩
    obtain ⟨y, b, k, act, acc, ss, vW, vF, vA, vS, rfl, rfl, rfl, rfl, rfl, hy1, hy2, HF, HA, HU⟩ := hrel
    have HBW := hid (show B ≤ wo.heap.size by have := HF.out.be.size; have := HBE.out; omega)
    have hMY := ptrInt_is (HF.out.yv.cell 0)
    have HMY := hid hMY
    clear hMY
    obtain ⟨y0, y1⟩ := HF.out.yv.read1
    by_cases hlt : y < 8192
    · have hal : act.length ≤ 1000000 := by rw [HA.out.e]; exact Nat.le_trans (List.length_filter_le _ _) (by rw [List.length_take]; omega)
      go_wp2_with fail
      (with_reducible refine (delS_any vA act b y B _ HBW.out HF.out.ac hal y0 HF.out.yv.lt HF.out.AY.no).mono ?_); rintro e w3 ⟨vA2, rfl, hown, hgr⟩
      have HF2 := hid (HF.out.activ HBW.out hown hgr)
      have HBW2 := hid (Nat.le_trans HBW.out hgr.size)
      obtain ⟨A2, c2, rfl, -⟩ := hown.is
      clear hown hgr y0 y1 HF HBW
      obtain ⟨y0, y1⟩ := HF2.out.yv.read1
      obtain ⟨Aw, cw, rfl, hcw, hcm, hrw⟩ := HF2.out.wt
      have HRW := hid hrw
      clear hrw
      have HAS := hid (show (delS y act).length = 0 ↔ delS y act = [] from List.length_eq_zero_iff)
      go_upto_if 34 with fail
      go_cut [7, 9, 11] (fun s7 s9 s11 wx => ∃ (y2 : Int) (act2 : List Sl) (vA3 : Value), s7 = .slice Aw (W.length - k) cw ∧ vA3 = s9 ∧ s11 = .pointer (some ⟨b, 0, none⟩) ∧ y ≤ y2 ∧ y2 ≤ 8191 ∧ Hid (FSt B w wx W b y2 (.slice Aw (W.length - k) cw) vF vA3 vS k act2 acc ss) ∧ Hid (Ref W act2 k y2) ∧ Hid (UpTo false ls y2 acc))
      case first =>
        by_cases he : delS y act = []
        · have hz : (((delS y act).length : Int) == 0) = true := by rw [he]; rfl
          have hyv := HF2.out.yv
          by_cases hk : k < W.length
          · have hkz : (((W.length - k : Nat) : Int) == 0) = false := beq_eq_false_iff_ne.2 (by omega)
            have hkd : 0 < (W.drop k).length := by rw [List.length_drop]; omega
            obtain ⟨a, rfl, hal2, hsa⟩ := HRW.out.at_ hkd
            have hd0 : (W.drop k)[0] = W[k] := by rw [List.getElem_drop]; rfl
            rw [hd0, show a.add (0 * 5) = a by unfold Addr.add; rfl] at hsa
            have HJ := hid (HA.out.jump HPER.out HWS.out (by omega) he hk)
            have HTC := hid hsa.c1
            have HTL := hid hal2
            generalize W[k].t.y = t0 at HJ HTC
            clear hsa hal2 hd0 hkd
            go_upto_region 16 with fail
            refine wpIn_wide.1 (grow_tail (F := Fence.wide) (n := 0) 7 (by kernel_rfl) (by kernel_rfl) (by kernel_rfl) ?_)
            simp only [List.take_succ_cons, List.take_zero, List.drop_succ_cons, List.drop_zero]
            refine gq_val (v := .int .i64 y) (fun _ => trivial) rfl (fun w' hw' => run_loadInt rfl ((HF2.out.yv.next hw').cell 0)) ?_
            simp only [Act.put, List.setIfInBounds_toArray, List.set_cons_succ, List.set_cons_zero]
            refine gq_val (v := .slice (some a) (W.length - k) cw) (fun _ => trivial) rfl (fun w' hw' => rfl) ?_
            simp only [Act.put, List.setIfInBounds_toArray, List.set_cons_succ, List.set_cons_zero]
            refine gq_val (v := .pointer (some a)) (fun _ => trivial) rfl (fun w' hw' => run_idxS0 rfl rfl (by omega)) ?_
            simp only [Act.put, List.setIfInBounds_toArray, List.set_cons_succ, List.set_cons_zero]
            refine gq_val (v := .pointer (some a)) (fun _ => trivial) rfl (fun w' hw' => run_fldSl0 rfl) ?_
            simp only [Act.put, List.setIfInBounds_toArray, List.set_cons_succ, List.set_cons_zero]
            refine gq_val (v := .pointer (some ⟨a.block, a.off + 1, none⟩)) (fun _ => trivial) rfl (fun w' hw' => run_fldY rfl) ?_
            simp only [Act.put, List.setIfInBounds_toArray, List.set_cons_succ, List.set_cons_zero]
            refine gq_val (v := .int .i64 t0) (fun _ => trivial) rfl (fun w' hw' => run_loadInt rfl ((hw'.cell (p := ⟨a.block, a.off + 1, none⟩) HTL.out).trans HTC.out)) ?_
            simp only [Act.put, List.setIfInBounds_toArray, List.set_cons_succ, List.set_cons_zero]
            refine gq_val (v := .int .i64 (max y t0)) (fun _ => trivial) rfl (fun w' hw' => run_max2 rfl rfl) ?_
            simp only [Act.put, List.setIfInBounds_toArray, List.set_cons_succ, List.set_cons_zero]
            refine wpQuietIn_nil ?_
            rintro X4 hb4
            have HF4 := hid (HF2.out.next HBW2.out hb4)
            clear hb4 HF2 hyv y0 y1
            obtain ⟨y0, y1⟩ := HF4.out.yv.read1
            gi_wp2
            go_meet
            exact ⟨max y t0, delS y act, _, rfl, rfl, rfl, by omega, HJ.out.2.1, hid (HF4.out.setY _), hid (by rw [he]; exact HJ.out.1), hid (HU.out.skip hy1 (by omega) fun y' h1 h2 _ => hits_nil HWP.out (HJ.out.2.2 y' h1 h2))⟩
          · have hkz : (((W.length - k : Nat) : Int) == 0) = true := by simp; omega
            have HOV := hid (HA.out.over he (by omega))
            go_wp2_with fail
            go_ret2
            exact ⟨⟨vF, acc, rfl, (HU.out.skip (y2 := 8192) hy1 (by omega) fun y' h1 h2 _ => hits_nil HWP.out (HOV.out y' h1)).whole (Int.le_refl _), HBE.out ▸ HF2.out.fl⟩, HBE.out ▸ HF2.out.be⟩
        · have hz : (((delS y act).length : Int) == 0) = false := beq_eq_false_iff_ne.2 (by have : (delS y act).length ≠ 0 := fun e => he (HAS.out.1 e); omega)
          go_wp2_with fail
          go_meet
          exact ⟨y, delS y act, _, rfl, rfl, rfl, Int.le_refl _, by omega, HF2, hid (HA.out.ref HPER.out), HU⟩
      case rest =>
        clear HF2 HA HU HRW HAS y0 y1 HBW2
        obtain ⟨y2, act2, vA3, rfl, rfl, rfl, hy3, hy4, HF2, HR, HU⟩ := hcut
        have HBW3 := hid (show B ≤ wc.heap.size by have := HF2.out.be.size; have := HBE.out; omega)
        go_wp2_with fail
        go_loopw [7, 9] (fun s7 s9 wr => ∃ (k2 : Nat) (act3 : List Sl) (vW3 vA4 : Value), vW3 = s7 ∧ vA4 = s9 ∧ Hid (FSt B w wr W b y2 vW3 vF vA4 vS k2 act3 acc ss) ∧ Hid (Ref W act3 k2 y2)) (fun s7 _ _ => lenV s7)
        case atStart => exact ⟨k, act2, _, _, rfl, rfl, HF2, HR⟩
        case round =>
          obtain ⟨wi, rfl⟩ : ∃ wi, wi = wr := ⟨_, rfl⟩
          clear HF2 HR HBW3
          obtain ⟨k2, act3, vW3, vA4, rfl, rfl, HF3, HR3⟩ := hrel
          have HBW3 := hid (show B ≤ wi.heap.size by have := HF3.out.be.size; have := HBE.out; omega)
          obtain ⟨Aw2, cw2, rfl, hcw2, hcm2, hrw2⟩ := HF3.out.wt
          have HRW := hid hrw2
          clear hrw2
          obtain ⟨GO, hGO⟩ : ∃ GO : Bool, GO = decide (∃ h : k2 < W.length, W[k2].t.y ≤ y2) := ⟨_, rfl⟩
          have HGO := hid hGO
          clear hGO
          go_upto_region 17 with fail
          go_cut [56] (fun s56 wx => s56 = .bool GO ∧ Hid (Below wi.heap.size wi wx))
          case first =>
            by_cases hk : k2 < W.length
            · have hkd : 0 < (W.drop k2).length := by rw [List.length_drop]; omega
              obtain ⟨a, rfl, hal2, hsa⟩ := HRW.out.at_ hkd
              have hd0 : (W.drop k2)[0] = W[k2] := by rw [List.getElem_drop]; rfl
              rw [hd0, show a.add (0 * 5) = a by unfold Addr.add; rfl] at hsa
              have HG2 := hid (show GO = decide (W[k2].t.y ≤ y2) by rw [HGO.out]; exact decide_eq_decide.2 ⟨fun h => h.2, fun h => ⟨hk, h⟩⟩)
              have HTC := hid hsa.c1
              have HTL := hid hal2
              generalize W[k2] = t at HTC HG2
              clear hsa hal2 hd0 hkd
              by_cases hle : t.t.y ≤ y2
              · obtain rfl : GO = true := by rw [HG2.out]; exact decide_eq_true hle
                refine wpIn_wide.1 (grow_round (F := Fence.wide) (n := 0) (by kernel_rfl) (by kernel_rfl) (by kernel_rfl) ?_)
                refine gq_val (v := .slice (some a) (W.length - k2) cw2) (fun _ => trivial) rfl (fun w' hw' => rfl) ?_
                simp only [Act.put, List.setIfInBounds_toArray, List.set_cons_succ, List.set_cons_zero]
                refine gq_val (v := .int .i64 ((W.length - k2 : Nat) : Int)) (fun _ => trivial) rfl (fun w' hw' => run_lenS rfl) ?_
                simp only [Act.put, List.setIfInBounds_toArray, List.set_cons_succ, List.set_cons_zero]
                refine gq_val (v := .bool true) (fun _ => trivial) rfl (fun w' hw' => run_gtrT rfl rfl (by omega)) ?_
                simp only [Act.put, List.setIfInBounds_toArray, List.set_cons_succ, List.set_cons_zero]
                refine gq_val (v := .bool true) (fun _ => trivial) rfl (fun w' hw' => rfl) ?_
                simp only [Act.put, List.setIfInBounds_toArray, List.set_cons_succ, List.set_cons_zero]
                refine gq_val (v := .slice (some a) (W.length - k2) cw2) (fun _ => trivial) rfl (fun w' hw' => rfl) ?_
                simp only [Act.put, List.setIfInBounds_toArray, List.set_cons_succ, List.set_cons_zero]
                refine gq_val (v := .pointer (some a)) (fun _ => trivial) rfl (fun w' hw' => run_idxS0 rfl rfl (by omega)) ?_
                simp only [Act.put, List.setIfInBounds_toArray, List.set_cons_succ, List.set_cons_zero]
                refine gq_val (v := .pointer (some a)) (fun _ => trivial) rfl (fun w' hw' => run_fldSl0 rfl) ?_
                simp only [Act.put, List.setIfInBounds_toArray, List.set_cons_succ, List.set_cons_zero]
                refine gq_val (v := .pointer (some ⟨a.block, a.off + 1, none⟩)) (fun _ => trivial) rfl (fun w' hw' => run_fldY rfl) ?_
                simp only [Act.put, List.setIfInBounds_toArray, List.set_cons_succ, List.set_cons_zero]
                refine gq_val (v := .int .i64 t.t.y) (fun _ => trivial) rfl (fun w' hw' => run_loadInt rfl ((hw'.cell (p := ⟨a.block, a.off + 1, none⟩) HTL.out).trans HTC.out)) ?_
                simp only [Act.put, List.setIfInBounds_toArray, List.set_cons_succ, List.set_cons_zero]
                refine gq_val (v := .int .i64 y2) (fun _ => trivial) rfl (fun w' hw' => run_loadInt rfl ((HF3.out.yv.next hw').cell 0)) ?_
                simp only [Act.put, List.setIfInBounds_toArray, List.set_cons_succ, List.set_cons_zero]
                refine gq_val (v := .bool true) (fun _ => trivial) rfl (fun w' hw' => run_leqT rfl rfl hle) ?_
                simp only [Act.put, List.setIfInBounds_toArray, List.set_cons_succ, List.set_cons_zero]
                refine gq_val (v := .bool true) (fun _ => trivial) rfl (fun w' hw' => rfl) ?_
                simp only [Act.put, List.setIfInBounds_toArray, List.set_cons_succ, List.set_cons_zero]
                refine wpQuietIn_nil ?_
                rintro X4 hb4
                go_wp2_with fail
                go_meet
                exact ⟨rfl, hid hb4⟩
              · obtain rfl : GO = false := by rw [HG2.out]; exact decide_eq_false hle
                refine wpIn_wide.1 (grow_round (F := Fence.wide) (n := 0) (by kernel_rfl) (by kernel_rfl) (by kernel_rfl) ?_)
                refine gq_val (v := .slice (some a) (W.length - k2) cw2) (fun _ => trivial) rfl (fun w' hw' => rfl) ?_
                simp only [Act.put, List.setIfInBounds_toArray, List.set_cons_succ, List.set_cons_zero]
                refine gq_val (v := .int .i64 ((W.length - k2 : Nat) : Int)) (fun _ => trivial) rfl (fun w' hw' => run_lenS rfl) ?_
                simp only [Act.put, List.setIfInBounds_toArray, List.set_cons_succ, List.set_cons_zero]
                refine gq_val (v := .bool true) (fun _ => trivial) rfl (fun w' hw' => run_gtrT rfl rfl (by omega)) ?_
                simp only [Act.put, List.setIfInBounds_toArray, List.set_cons_succ, List.set_cons_zero]
                refine gq_val (v := .bool true) (fun _ => trivial) rfl (fun w' hw' => rfl) ?_
                simp only [Act.put, List.setIfInBounds_toArray, List.set_cons_succ, List.set_cons_zero]
                refine gq_val (v := .slice (some a) (W.length - k2) cw2) (fun _ => trivial) rfl (fun w' hw' => rfl) ?_
                simp only [Act.put, List.setIfInBounds_toArray, List.set_cons_succ, List.set_cons_zero]
                refine gq_val (v := .pointer (some a)) (fun _ => trivial) rfl (fun w' hw' => run_idxS0 rfl rfl (by omega)) ?_
                simp only [Act.put, List.setIfInBounds_toArray, List.set_cons_succ, List.set_cons_zero]
                refine gq_val (v := .pointer (some a)) (fun _ => trivial) rfl (fun w' hw' => run_fldSl0 rfl) ?_
                simp only [Act.put, List.setIfInBounds_toArray, List.set_cons_succ, List.set_cons_zero]
                refine gq_val (v := .pointer (some ⟨a.block, a.off + 1, none⟩)) (fun _ => trivial) rfl (fun w' hw' => run_fldY rfl) ?_
                simp only [Act.put, List.setIfInBounds_toArray, List.set_cons_succ, List.set_cons_zero]
                refine gq_val (v := .int .i64 t.t.y) (fun _ => trivial) rfl (fun w' hw' => run_loadInt rfl ((hw'.cell (p := ⟨a.block, a.off + 1, none⟩) HTL.out).trans HTC.out)) ?_
                simp only [Act.put, List.setIfInBounds_toArray, List.set_cons_succ, List.set_cons_zero]
                refine gq_val (v := .int .i64 y2) (fun _ => trivial) rfl (fun w' hw' => run_loadInt rfl ((HF3.out.yv.next hw').cell 0)) ?_
                simp only [Act.put, List.setIfInBounds_toArray, List.set_cons_succ, List.set_cons_zero]
                refine gq_val (v := .bool false) (fun _ => trivial) rfl (fun w' hw' => run_leqF rfl rfl hle) ?_
                simp only [Act.put, List.setIfInBounds_toArray, List.set_cons_succ, List.set_cons_zero]
                refine gq_val (v := .bool false) (fun _ => trivial) rfl (fun w' hw' => rfl) ?_
                simp only [Act.put, List.setIfInBounds_toArray, List.set_cons_succ, List.set_cons_zero]
                refine wpQuietIn_nil ?_
                rintro X4 hb4
                go_wp2_with fail
                go_meet
                exact ⟨rfl, hid hb4⟩
            · obtain rfl : GO = false := by rw [HGO.out]; exact decide_eq_false fun h => hk h.1
              refine wpIn_wide.1 (grow_round (F := Fence.wide) (n := 0) (by kernel_rfl) (by kernel_rfl) (by kernel_rfl) ?_)
              refine gq_val (v := .slice Aw2 (W.length - k2) cw2) (fun _ => trivial) rfl (fun w' hw' => rfl) ?_
              simp only [Act.put, List.setIfInBounds_toArray, List.set_cons_succ, List.set_cons_zero]
              refine gq_val (v := .int .i64 ((W.length - k2 : Nat) : Int)) (fun _ => trivial) rfl (fun w' hw' => run_lenS rfl) ?_
              simp only [Act.put, List.setIfInBounds_toArray, List.set_cons_succ, List.set_cons_zero]
              refine gq_val (v := .bool false) (fun _ => trivial) rfl (fun w' hw' => run_gtrF rfl rfl (by omega)) ?_
              simp only [Act.put, List.setIfInBounds_toArray, List.set_cons_succ, List.set_cons_zero]
              refine gq_val (v := .bool false) (fun _ => trivial) rfl (fun w' hw' => rfl) ?_
              simp only [Act.put, List.setIfInBounds_toArray, List.set_cons_succ, List.set_cons_zero]
              refine gq_skip (fun _ => trivial) rfl ?_
              simp only [Act.put, List.setIfInBounds_toArray, List.set_cons_succ, List.set_cons_zero]
              refine gq_skip (fun _ => trivial) rfl ?_
              simp only [Act.put, List.setIfInBounds_toArray, List.set_cons_succ, List.set_cons_zero]
              refine gq_skip (fun _ => trivial) rfl ?_
              simp only [Act.put, List.setIfInBounds_toArray, List.set_cons_succ, List.set_cons_zero]
              refine gq_skip (fun _ => trivial) rfl ?_
              simp only [Act.put, List.setIfInBounds_toArray, List.set_cons_succ, List.set_cons_zero]
              refine gq_skip (fun _ => trivial) rfl ?_
              simp only [Act.put, List.setIfInBounds_toArray, List.set_cons_succ, List.set_cons_zero]
              refine gq_skip (fun _ => trivial) rfl ?_
              simp only [Act.put, List.setIfInBounds_toArray, List.set_cons_succ, List.set_cons_zero]
              refine gq_skip (fun _ => trivial) rfl ?_
              simp only [Act.put, List.setIfInBounds_toArray, List.set_cons_succ, List.set_cons_zero]
              refine gq_val (v := .bool false) (fun _ => trivial) rfl (fun w' hw' => rfl) ?_
              simp only [Act.put, List.setIfInBounds_toArray, List.set_cons_succ, List.set_cons_zero]
              refine wpQuietIn_nil ?_
              rintro X4 hb4
              go_wp2_with fail
              go_meet
              exact ⟨rfl, hid hb4⟩
          case rest =>
            obtain ⟨rfl, HBC⟩ := hcut
            have HF4 := hid (HF3.out.next HBW3.out HBC.out)
            have HRW2 := hid (HRW.out.next HBC.out)
            have HBW4 := hid (show B ≤ wc.heap.size from Nat.le_trans HBW3.out HBC.out.size)
            clear HF3 HRW HBW3
            cases GO with
            | true =>
              obtain ⟨hk, hle⟩ := of_decide_eq_true HGO.out.symm
              have hkd : 0 < (W.drop k2).length := by rw [List.length_drop]; omega
              obtain ⟨a, rfl, hal2, hsa⟩ := HRW2.out.at_ hkd
              have hd0 : (W.drop k2)[0] = W[k2] := by rw [List.getElem_drop]; rfl
              rw [hd0, show a.add (0 * 5) = a by unfold Addr.add; rfl] at hsa
              have HR4 := hid (HR3.out.more hk hle)
              have hal3 : act3.length ≤ 5000000000 := by rw [HR3.out.e]; exact Nat.le_trans (List.length_filter_le _ _) (by rw [List.length_take]; omega)
              have HAL3 := hid hal3
              have HLK := hid hk
              generalize W[k2] = t at hsa HR4
              obtain ⟨c0, c1, c2', c3, c4⟩ := hsa
              obtain ⟨m, hm⟩ : ∃ m, m = W.length - k2 := ⟨_, rfl⟩
              have HM2 := hid hm
              rw [← hm] at hcw2
              have hm0 : 0 < m := by omega
              have hm1 : (1 : Int) ≤ (m : Int) := by omega
              have hm2 : (m : Int) ≤ (cw2 : Int) := by omega
              unfold maxLen at hcm2
              have hc0 : (0 : Int) < (m : Int) := by omega
              clear hd0 hkd hle hk hal3 hal2 HR3
              rw [← hm]
              go_wp2_with (at_builtin; refine wpList_append_Sl (B := B) (xs := act3) (s := t) rfl _ _ rfl HBW4.out rfl rfl HF4.out.ac HAL3.out ?_)
              intro v5 w5 hown hgr
              have HF5 := hid (HF4.out.activ HBW4.out hown hgr)
              have HF6 := hid (HF5.out.wait HLK.out a rfl (W.length - k2 - 1) rfl)
              clear hown hgr HF4 HF5 c0 c1 c2' c3 c4
              by_cases hc1 : cw2 = 1
              · rw [if_pos hc1] at HF6
                subst hc1
                go_wp2_with fail
                go_roundw
                case rel => exact ⟨k2 + 1, act3 ++ [t], _, _, rfl, rfl, HF6, HR4⟩
                case measure => show W.length - k2 - 1 < W.length - k2; have := HLK.out; omega
              · rw [if_neg hc1] at HF6
                go_wp2_with fail
                go_roundw
                case rel => exact ⟨k2 + 1, act3 ++ [t], _, _, rfl, rfl, HF6, HR4⟩
                case measure => show W.length - k2 - 1 < W.length - k2; have := HLK.out; omega
            | false =>
              have HLF := hid (Ref.left HWS.out (show W.length ≤ k2 ∨ ∃ h : k2 < W.length, y2 < W[k2].t.y from by
                by_cases hk : k2 < W.length
                · refine .inr ⟨hk, ?_⟩
                  have := of_decide_eq_false HGO.out.symm
                  rcases Int.lt_or_le y2 W[k2].t.y with h | h
                  · exact h
                  · exact absurd ⟨hk, h⟩ this
                · exact .inl (by omega)))
              have HDN := hid (HR3.out.done HLF.out)
              have HPH := hid (show act3.Perm (hits (edgesL ls) y2) by have := hits_perm HWP.out y2; rwa [HDN.out.1] at this)
              obtain ⟨AS, cS, rfl, -⟩ := HF4.out.st.is
              obtain ⟨A4, c4, rfl, hra⟩ := HF4.out.ac.is
              have HRA := hid hra
              have HO0 := hid HF4.out.st.zero
              have hlm := HR3.out.e
              have hal3 : act3.length ≤ 1000000 := by rw [hlm]; exact Nat.le_trans (List.length_filter_le _ _) (by rw [List.length_take]; omega)
              have HAL3 := hid hal3
              have HHX := hid (show ∀ s ∈ act3, SlIn s ∧ s.hit y2 = true from fun s hs => by
                rw [← HDN.out.1] at hs
                have := List.mem_filter.1 hs
                exact ⟨HIN.out s this.1, this.2⟩)
              clear hra hlm hal3 HGO HLF HRW2 hcw2 hcm2
              go_upto_region 20 with fail
              refine wpIn_wide.1 (grow_tail (F := Fence.wide) (n := 0) 4 (by kernel_rfl) (by kernel_rfl) (by kernel_rfl) ?_)
              simp only [List.take_succ_cons, List.take_zero, List.drop_succ_cons, List.drop_zero]
              refine gq_val (v := .slice AS ss.length cS) (fun _ => trivial) rfl (fun w' hw' => rfl) ?_
              simp only [Act.put, List.setIfInBounds_toArray, List.set_cons_succ, List.set_cons_zero]
              refine gq_val (v := .slice AS 0 cS) (fun _ => trivial) rfl (fun w' hw' => run_sl0T rfl rfl) ?_
              simp only [Act.put, List.setIfInBounds_toArray, List.set_cons_succ, List.set_cons_zero]
              refine gq_val (v := .slice A4 act3.length c4) (fun _ => trivial) rfl (fun w' hw' => rfl) ?_
              simp only [Act.put, List.setIfInBounds_toArray, List.set_cons_succ, List.set_cons_zero]
              refine gq_val (v := .int .i64 y2) (fun _ => trivial) rfl (fun w' hw' => run_loadInt rfl ((HF4.out.yv.next hw').cell 0)) ?_
              simp only [Act.put, List.setIfInBounds_toArray, List.set_cons_succ, List.set_cons_zero]
              refine wpQuietIn_nil ?_
              rintro X4 hb4
              have HF5 := hid (HF4.out.next HBW4.out hb4)
              have HO5 := hid (HO0.out.next hb4)
              have HRA5 := hid (HRA.out.next hb4)
              have HBW5 := hid (Nat.le_trans HBW4.out hb4.size)
              clear hb4 HF4 HO0 HRA HBW4
              gi_wp2_with fail
              refine ⟨trivial, rfl, ?_⟩
              (refine (callsIn_wide.2 (stepsOf_any (.slice AS 0 cS) A4 act3.length c4 act3 y2 B X4 HBW5.out HO5.out rfl HAL3.out HRA5.out (fun a e h => HF5.out.AS _ (by subst e; rfl) ((ob0 AS ss.length 0 cS).trans h)) HHX.out)).mono ?_); rintro e w5 ⟨val, qs, rfl, hperm, hpw, hown, hgr⟩
              have HF6 := hid (HF5.out.step HBW5.out (ob0 AS 0 ss.length cS) hown hgr)
              have HBW6 := hid (Nat.le_trans HBW5.out hgr.size)
              have HQP := hid hperm
              have HQW := hid hpw
              obtain ⟨A6, c6, rfl, hrq⟩ := hown.is
              have HRQ := hid hrq
              have hql : qs.length ≤ 1000000 := by have := hperm.length_eq; rw [List.length_map] at this; have := HAL3.out; omega
              have HQL := hid hql
              have HQD := hid (show ∀ s ∈ qs, -1 ≤ s.d ∧ s.d ≤ 1 from fun s hs => by
                obtain ⟨t, ht, rfl⟩ := List.mem_map.1 (hperm.mem_iff.1 hs)
                exact (HHX.out t ht).1.d)
              clear hperm hpw hown hgr hrq hql HF5 HO5 HRA5 HBW5
              obtain ⟨y0, y1⟩ := HF6.out.yv.read1
              gi_wp2
              go_wp2_with fail
              (with_reducible refine (appendRow_any vF A6 qs.length c6 qs y2 0 false acc B w5 HBW6.out HF6.out.fl (by have := chk_len HU.out.ok; omega) rfl HQL.out HRQ.out HF6.out.FS.row HQD.out rfl).mono ?_); rintro e w6 ⟨vF2, rfl, hown, hgr⟩
              have HF7 := hid (HF6.out.fill HBW6.out hown hgr)
              have HBW7 := hid (Nat.le_trans HBW6.out hgr.size)
              have HU2 := hid (HU.out.row (y := y2) ⟨by omega, hy4⟩ HPH.out HQP.out HQW.out)
              clear hown hgr HF6 HBW6 y0 y1
              obtain ⟨y0, y1⟩ := HF7.out.yv.read1
              have HF8 := hid (HF7.out.newY HBW7.out (y2 + 1))
              go_wp2_with fail
              go_roundw
              case rel => exact ⟨y2 + 1, _, k2, act3, _, qs, _, _, _, _, rfl, rfl, rfl, rfl, rfl, by omega, by omega, HF8, hid HDN.out.2, HU2⟩
              case measure =>
                rw [HMY.out, ptrInt_is (z := y2 + 1) (HF8.out.yv.cell 0)]
                omega
    · have hy8 : y = 8192 := by omega
      subst hy8
      go_wp2_with fail
      go_ret2
      exact ⟨⟨vF, acc, rfl, HU.out.whole (Int.le_refl _), HBE.out ▸ HF.out.fl⟩, HBE.out ▸ HF.out.be⟩
end Go.Proofs.Ytijkoaggcmgjiaa
