/- The reference's FilledRow (written by r9_fro.py). -/
import Derived.Test.YtijkoaggcmgjiaaFra
import Derived.Test.YtijkoaggcmgjiaaFst
namespace Go.Proofs.Ytijkoaggcmgjiaa
open Go Go.RowKit
attribute [local go_sem] Oper.semAt_some
set_option linter.unusedVariables false
set_option linter.unusedSimpArgs false

section
variable {ρ : Operand → Value} {dst : Option Tmp} {ty : TypeId} {pos : String} {af : Array Edge} {x y : Operand} {w : World} {gd : Option (Nat × Bool)}
theorem run_idxI {g : Nat} {j n c : Nat} (hx : ρ x = .slice (some ⟨g, 0, none⟩) n c) (hy : ρ y = .int .i64 (j : Int)) (hj : j < n) :
    (execOp ρ { dst := dst, op := .indexAddr 128 x y, type := ty, pos := pos, after := af, guard := gd }).run Try.prog w = .ok (.value (.pointer (some ⟨g, j, none⟩))) w := by
  have h1 : (j : Int) < (n : Int) := by omega
  have h0 : (0 : Int) ≤ (j : Int) := Int.natCast_nonneg _
  have e : (⟨g, 0, none⟩ : Addr).add j = ⟨g, j, none⟩ := adr0 g j
  go_simp
end
theorem rowK_is {odd : Bool} {ls : List Ln} {y x : Int} (h : -8192 ≤ x ∧ x ≤ 8191) : rowK odd ls y x = isF odd (wind ls x y) := by unfold rowK; rw [decide_eq_true h, Bool.true_and]

set_option maxHeartbeats 16000000 in
set_option maxRecDepth 100000 in
theorem frow_any (A : Option Addr) (ls : List Ln) (n c : Nat) (odd : Bool) (y : Int) (w : World) (hn : n = ls.length) (hl : n ≤ maxLen) (hs : Lns w A ls) (hok : lchk ls = 0) (hy : -8192 ≤ y ∧ y ≤ 8191) (hlen : (edgesL ls).length ≤ 1000000) :
    Calls Try.prog 49 #[.slice A n c, .bool odd, .int .i64 y] w fun e w' => ∃ v rs, e = .returned v ∧ RowF odd ls y rs ∧ OwnR w' w.heap.size v rs ∧ Below w.heap.size w w' := by
  have HOK := hid (lok_all (lok_of hok))
  obtain ⟨es, rfl, hE⟩ := hs.ext
  have HLN0 := hid hs
  have HOK0 := hid hok
  have HNL := hid hn
  have HML := hid hl
  have HS := hid hE
  have HN := hid (show n = es.length by simpa using hn)
  unfold maxLen at hl
  obtain ⟨ls, hls⟩ : ∃ ls, ls = es.map LE.ln := ⟨_, rfl⟩
  have HLS := hid hls
  rw [← hls] at HOK HLN0 HOK0 HNL hlen ⊢
  have HLEN := hid hlen
  clear hs hn hE hls hok hlen
  obtain ⟨hy1, hy2⟩ := hy
  go_enter Try.func49, Try.ntmps49
  go_wp2_with fail
  go_loopw [20, 7] (fun s20 s7 wr => ∃ (i : Nat) (v : Value) (bs : List Int), v = s7 ∧ s20 = .int .i64 i ∧ i ≤ n ∧ Hid (Crs (edgesL (ls.take i)) y bs) ∧ Hid (OwnI wr w.heap.size v bs) ∧ Hid (Below w.heap.size w wr)) (fun s20 _ _ => n - (intOf s20).toNat)
  case atStart => exact ⟨0, _, [], rfl, rfl, Nat.zero_le _, hid (Crs.none y), hid (OwnI.nil _ _), hid (Below.refl _ w)⟩
  case round =>
    obtain ⟨wo, rfl⟩ : ∃ wo, wo = wr := ⟨_, rfl⟩
    obtain ⟨i, v, bs, rfl, rfl, hi, HC, HO, HB⟩ := hrel
    by_cases hlt : i < n
    · have hil : i < es.length := by rw [← HN.out]; exact hlt
      have hil2 : i < ls.length := by rw [HLS.out]; simpa using hil
      obtain ⟨a, rfl, hal, hsa⟩ := (HS.out.next HB.out).at_ hil
      obtain ⟨a0, ea0, hal0, hsa0⟩ := HS.out.at_ hil
      have HTK := hid (show edgesL (ls.take (i + 1)) = edgesL (ls.take i) ++ edgs es[i].ps by rw [edgesL_take hil2]; congr 2; simp [HLS.out, LE.ln])
      have HG := hid (show ∀ p ∈ es[i].ps, _ from fun p hp => HOK.out es[i].ln (by rw [HLS.out]; exact List.mem_map_of_mem (List.getElem_mem hil)) p hp)
      generalize es[i] = g at hsa hsa0 HTK HG
      obtain ⟨c0, c1, -, hpc, hpm⟩ := hsa
      have HPM := hid (Nat.le_trans hpc hpm)
      have HP0 := hid hsa0.pts
      clear hsa0 ea0 hal0
      obtain ⟨m, hm⟩ : ∃ m, m = g.ps.length := ⟨_, rfl⟩
      have HM := hid hm
      obtain ⟨A', hA'⟩ : ∃ A', A' = g.A := ⟨_, rfl⟩
      rw [← hm, ← hA'] at c0
      rw [← hm] at HPM
      rw [← hA'] at HP0
      have HA := hid hA'
      have hml : m ≤ 2 ^ 63 - 1 := by have := HPM.out; unfold maxLen at this; omega
      clear hpc hpm hm hA' hal
      have HIL := hid (show i < n from hlt)
      go_wp2_with fail
      clear c0 c1
      go_loopw [30, 7] (fun s30 s7 wx => ∃ (k : Nat) (v : Value) (bs : List Int), v = s7 ∧ s30 = .int .i64 k ∧ k ≤ m ∧ Hid (Crs (edgesL (ls.take i) ++ (edgs g.ps).take k) y bs) ∧ Hid (OwnI wx w.heap.size v bs) ∧ Hid (Below w.heap.size w wx)) (fun s30 _ _ => m - (intOf s30).toNat)
      case atStart => exact ⟨0, v, bs, rfl, rfl, Nat.zero_le _, hid (by rw [List.take_zero, List.append_nil]; exact HC.out), HO, HB⟩
      case round =>
        clear HC HO HB
        obtain ⟨wx, rfl⟩ : ∃ wx, wx = wr := ⟨_, rfl⟩
        obtain ⟨k, v, bs, rfl, rfl, hk, HC, HO, HB⟩ := hrel
        by_cases hlt : k < m
        · have hkl : k < g.ps.length := by rw [← HM.out]; exact hlt
          obtain ⟨r, hr⟩ : ∃ r, (k + 1) % m = r := ⟨_, rfl⟩
          have hrm : r < m := by rw [← hr]; exact Nat.mod_lt _ (by omega)
          have hrl : r < g.ps.length := by rw [← HM.out]; exact hrm
          have HTE := hid (show edgesL (ls.take i) ++ (edgs g.ps).take (k + 1) = (edgesL (ls.take i) ++ (edgs g.ps).take k) ++ [(g.ps.getD k default, g.ps.getD r default)] by rw [edgs_take hkl, ← HM.out, hr, List.append_assoc])
          have hp : Pts wx A' g.ps := fun hne => by
            obtain ⟨q, e, hq, hr'⟩ := HP0.out hne
            exact ⟨q, e, Nat.lt_of_lt_of_le hq HB.out.size, fun i p hp => (hr' i p hp).below HB.out (by rw [add_block]; exact hq)⟩
          obtain ⟨bp, rfl, hbl, hb0⟩ := hp.at_ hkl
          obtain ⟨bp2, e2, -, hb1⟩ := hp.at_ hrl
          cases e2
          have hj1 := HG.out _ (List.getElem_mem hkl)
          have hr1 := HG.out _ (List.getElem_mem hrl)
          rw [show g.ps.getD k default = g.ps[k] by simp [List.getD_eq_getElem?_getD, hkl], show g.ps.getD r default = g.ps[r] by simp [List.getD_eq_getElem?_getD, hrl]] at HTE
          clear hp
          generalize g.ps[k] = pj at hb0 HTE hj1
          generalize g.ps[r] = pr at hb1 HTE hr1
          have HIN := hid (slp_in hj1 hr1)
          have HRD := hid hr
          have hIL := HIL.out
          clear hj1 hr1
          go_upto_region 9 with fail
          refine grow_plain (by kernel_rfl) (by kernel_rfl) (by kernel_rfl) ?_
          refine gq_val (v := .slice (some bp) m g.c) (fun _ => trivial) rfl (fun w' hw' => rfl) ?_
          simp only [Act.put, List.setIfInBounds_toArray, List.set_cons_succ, List.set_cons_zero]
          refine gq_val (v := .int .i64 k) (fun _ => trivial) rfl (fun w' hw' => rfl) ?_
          simp only [Act.put, List.setIfInBounds_toArray, List.set_cons_succ, List.set_cons_zero]
          refine gq_val (v := .pointer (some (bp.add (k * 2)))) (fun _ => trivial) rfl (fun w' hw' => run_indexPN rfl rfl hlt) ?_
          simp only [Act.put, List.setIfInBounds_toArray, List.set_cons_succ, List.set_cons_zero]
          refine gq_val (v := ptv pj) (fun _ => trivial) rfl (fun w' hw' => run_loadPtA rfl (hb0.below hw' (by rw [add_block]; exact hbl))) ?_
          simp only [Act.put, List.setIfInBounds_toArray, List.set_cons_succ, List.set_cons_zero]
          refine gq_val (v := .slice (some bp) m g.c) (fun _ => trivial) rfl (fun w' hw' => rfl) ?_
          simp only [Act.put, List.setIfInBounds_toArray, List.set_cons_succ, List.set_cons_zero]
          refine gq_val (v := .int .i64 k) (fun _ => trivial) rfl (fun w' hw' => rfl) ?_
          simp only [Act.put, List.setIfInBounds_toArray, List.set_cons_succ, List.set_cons_zero]
          refine gq_val (v := .int .i64 ((k : Int) + 1)) (fun _ => trivial) rfl (fun w' hw' => run_add rfl rfl (by unfold Rg; omega)) ?_
          simp only [Act.put, List.setIfInBounds_toArray, List.set_cons_succ, List.set_cons_zero]
          refine gq_val (v := .slice (some bp) m g.c) (fun _ => trivial) rfl (fun w' hw' => rfl) ?_
          simp only [Act.put, List.setIfInBounds_toArray, List.set_cons_succ, List.set_cons_zero]
          refine gq_val (v := .int .i64 m) (fun _ => trivial) rfl (fun w' hw' => run_lenPts rfl) ?_
          simp only [Act.put, List.setIfInBounds_toArray, List.set_cons_succ, List.set_cons_zero]
          refine gq_val (v := .int .i64 r) (fun _ => trivial) rfl (fun w' hw' => run_remN rfl rfl hr (by omega)) ?_
          simp only [Act.put, List.setIfInBounds_toArray, List.set_cons_succ, List.set_cons_zero]
          refine gq_val (v := .pointer (some (bp.add (r * 2)))) (fun _ => trivial) rfl (fun w' hw' => run_indexPN rfl rfl hrm) ?_
          simp only [Act.put, List.setIfInBounds_toArray, List.set_cons_succ, List.set_cons_zero]
          refine gq_val (v := ptv pr) (fun _ => trivial) rfl (fun w' hw' => run_loadPtA rfl (hb1.below hw' (by rw [add_block]; exact hbl))) ?_
          simp only [Act.put, List.setIfInBounds_toArray, List.set_cons_succ, List.set_cons_zero]
          refine gq_val (v := .int .i64 y) (fun _ => trivial) rfl (fun w' hw' => rfl) ?_
          simp only [Act.put, List.setIfInBounds_toArray, List.set_cons_succ, List.set_cons_zero]
          by_cases hit : (slp pj pr).hit y = true
          · have HCY := hid (fun w' => crossed_yes pj pr y w' HIN.out hit)
            have hH : 0 < (slp pj pr).h ∧ (slp pj pr).h ≤ 65534 := ⟨Sl.hit_h hit, by have := HIN.out.ty; have := HIN.out.by_; unfold Sl.h; omega⟩
            have hN := num_bd HIN.out hit
            have hD := slp_d pj pr
            have HCD := hid (cell_down (s := slp pj pr) (y := y))
            have hCI := cell_in (m := -32767) (M := 32767) hit HIN.out.tx HIN.out.bx
            obtain ⟨H, hH2⟩ : ∃ H, (slp pj pr).h = H := ⟨_, rfl⟩
            obtain ⟨N, hN2⟩ : ∃ N, (slp pj pr).num y = N := ⟨_, rfl⟩
            obtain ⟨D, hD2⟩ : ∃ N, (slp pj pr).d = N := ⟨_, rfl⟩
            obtain ⟨C, hC2⟩ : ∃ C, (slp pj pr).cell y = C := ⟨_, rfl⟩
            rw [hH2] at HCY hH HCD
            rw [hN2] at HCY hN HCD
            rw [hD2] at HCY hD
            rw [hC2] at HCD hCI
            have HC2 := hid hC2
            have HHIT := hid hit
            clear hH2 hN2 hD2 hC2
            refine gq_call (v := .tuple #[.int .i64 D, .int .i64 N, .int .i64 H]) (f := 90) (args := #[ptv pj, ptv pr, .int .i64 y]) (fun _ => trivial) rfl rfl (fun _ => run_call3 rfl enters_crossed) (fun w' hw' => (callsIn_wide.2 (HCY.out w')).mono fun e w'' he => ⟨he.1, below_next hw' he.2⟩) ?_
            simp only [Act.put, List.setIfInBounds_toArray, List.set_cons_succ, List.set_cons_zero]
            refine gq_val (v := .tuple #[.int .i64 D, .int .i64 N, .int .i64 H]) (fun _ => trivial) rfl (fun w' hw' => rfl) ?_
            simp only [Act.put, List.setIfInBounds_toArray, List.set_cons_succ, List.set_cons_zero]
            refine gq_val (v := .int .i64 D) (fun _ => trivial) rfl (fun w' hw' => rfl) ?_
            simp only [Act.put, List.setIfInBounds_toArray, List.set_cons_succ, List.set_cons_zero]
            refine gq_val (v := .int .i64 N) (fun _ => trivial) rfl (fun w' hw' => rfl) ?_
            simp only [Act.put, List.setIfInBounds_toArray, List.set_cons_succ, List.set_cons_zero]
            refine gq_val (v := .int .i64 H) (fun _ => trivial) rfl (fun w' hw' => rfl) ?_
            simp only [Act.put, List.setIfInBounds_toArray, List.set_cons_succ, List.set_cons_zero]
            refine gq_val (v := .int .i64 D) (fun _ => trivial) rfl (fun w' hw' => rfl) ?_
            simp only [Act.put, List.setIfInBounds_toArray, List.set_cons_succ, List.set_cons_zero]
            refine gq_val (v := .int .i64 N) (fun _ => trivial) rfl (fun w' hw' => rfl) ?_
            simp only [Act.put, List.setIfInBounds_toArray, List.set_cons_succ, List.set_cons_zero]
            refine gq_val (v := .int .i64 H) (fun _ => trivial) rfl (fun w' hw' => rfl) ?_
            simp only [Act.put, List.setIfInBounds_toArray, List.set_cons_succ, List.set_cons_zero]
            refine wpQuietIn_nil ?_
            rintro X4 hb4
            have HBX := hid (show w.heap.size ≤ wx.heap.size from HB.out.size)
            have HB4 := hid (HB.out.trans (hb4.mono HBX.out))
            have HO4 := hid (HO.out.next hb4)
            have hd0 : (D != 0) = true := by rcases hD with h | h <;> rw [h] <;> rfl
            obtain ⟨hH1, hH2⟩ := hH
            obtain ⟨hN1, hN2⟩ := hN
            obtain ⟨hC1, hC2⟩ := hCI
            have HDN := hid (fun w' => rdown_any (H - N) (2 * H) w' (by omega) (by omega) (by omega) (by omega))
            have hq : (H - N) / (2 * H) = -C := by have := HCD.out; omega
            rw [hq] at HDN
            have HZ4 := hid (show w.heap.size ≤ X4.heap.size from HB4.out.size)
            have hbl5 := HC.out.len
            have HPT := hid (put_any v bs (max (-8192) (min 8192 C)) w.heap.size X4 HZ4.out HO4.out (by omega))
            clear hD hb4 HCY hit hb0 hb1 hbl hr HO HCD hq
            go_wp2_with fail
            (with_reducible refine ((HDN.out _)).mono ?_); rintro e w5 ⟨rfl, rfl⟩
            go_wp2_with fail
            (with_reducible refine (HPT.out).mono ?_); rintro e w6 ⟨v2, bs2, rfl, hown, hgr, hput⟩
            have HO5 := hid hown
            have HB5 := hid (HB4.out.trans (hgr.below HZ4.out fun q hq => (HO4.out.ge q hq).1))
            have HC5 := hid (show Crs (edgesL (ls.take i) ++ (edgs g.ps).take (k + 1)) y bs2 by
              rw [HTE.out]
              refine HC.out.put HHIT.out ?_
              rw [show (stp y (slp (pj, pr).1 (pj, pr).2)).x = max (-8192) (min 8192 C) by show max (-8192) (min ((slp pj pr).cell y) 8192) = _; rw [HC2.out, Int.min_comm]]
              exact hput)
            clear hown hgr hput HPT HDN HO4
            go_wp2_with fail
            go_roundw
            case rel => exact ⟨k + 1, v2, bs2, rfl, by go_num, by omega, HC5, HO5, HB5⟩
            case measure => simp [intOf]; omega
          · replace hit : (slp pj pr).hit y = false := by simpa using hit
            refine gq_call (v := .tuple #[.int .i64 0, .int .i64 0, .int .i64 1]) (f := 90) (args := #[ptv pj, ptv pr, .int .i64 y]) (fun _ => trivial) rfl rfl (fun _ => run_call3 rfl enters_crossed) (fun w' hw' => (callsIn_wide.2 (crossed_no pj pr y w' hit)).mono fun e w'' he => ⟨he.1, below_next hw' he.2⟩) ?_
            simp only [Act.put, List.setIfInBounds_toArray, List.set_cons_succ, List.set_cons_zero]
            refine gq_val (v := .tuple #[.int .i64 0, .int .i64 0, .int .i64 1]) (fun _ => trivial) rfl (fun w' hw' => rfl) ?_
            simp only [Act.put, List.setIfInBounds_toArray, List.set_cons_succ, List.set_cons_zero]
            refine gq_val (v := .int .i64 0) (fun _ => trivial) rfl (fun w' hw' => rfl) ?_
            simp only [Act.put, List.setIfInBounds_toArray, List.set_cons_succ, List.set_cons_zero]
            refine gq_val (v := .int .i64 0) (fun _ => trivial) rfl (fun w' hw' => rfl) ?_
            simp only [Act.put, List.setIfInBounds_toArray, List.set_cons_succ, List.set_cons_zero]
            refine gq_val (v := .int .i64 1) (fun _ => trivial) rfl (fun w' hw' => rfl) ?_
            simp only [Act.put, List.setIfInBounds_toArray, List.set_cons_succ, List.set_cons_zero]
            refine gq_val (v := .int .i64 0) (fun _ => trivial) rfl (fun w' hw' => rfl) ?_
            simp only [Act.put, List.setIfInBounds_toArray, List.set_cons_succ, List.set_cons_zero]
            refine gq_val (v := .int .i64 0) (fun _ => trivial) rfl (fun w' hw' => rfl) ?_
            simp only [Act.put, List.setIfInBounds_toArray, List.set_cons_succ, List.set_cons_zero]
            refine gq_val (v := .int .i64 1) (fun _ => trivial) rfl (fun w' hw' => rfl) ?_
            simp only [Act.put, List.setIfInBounds_toArray, List.set_cons_succ, List.set_cons_zero]
            refine wpQuietIn_nil ?_
            rintro X4 hb4
            have HBX := hid (show w.heap.size ≤ wx.heap.size from HB.out.size)
            have HB4 := hid (HB.out.trans (hb4.mono HBX.out))
            have HO4 := hid (HO.out.next hb4)
            have HC4 := hid (show Crs (edgesL (ls.take i) ++ (edgs g.ps).take (k + 1)) y bs by rw [HTE.out]; exact HC.out.pass hit)
            clear hit hb0 hb1 hbl hr hb4
            go_wp2_with fail
            go_roundw
            case rel => exact ⟨k + 1, _, bs, rfl, by go_num, by omega, HC4, HO4, HB4⟩
            case measure => simp [intOf]; omega
        · have HC2 := hid (show Crs (edgesL (ls.take (i + 1))) y bs by rw [HTK.out]; have := HC.out; rwa [show (edgs g.ps).take k = edgs g.ps from List.take_of_length_le (by rw [edgs_len, ← HM.out]; omega)] at this)
          have hIL := HIL.out
          clear HC
          go_wp2_with fail
          go_roundw
          case rel => exact ⟨i + 1, _, bs, rfl, by go_num, by omega, HC2, HO, HB⟩
          case measure => simp [intOf]; omega
    · have HC2 := hid (show Crs (edgesL ls) y bs by have := HC.out; rwa [List.take_of_length_le (by have := HN.out; rw [HLS.out, List.length_map]; omega)] at this)
      clear HC
      obtain ⟨Ax, cx, rfl, hcx1, hcx2, hix⟩ := HO.out.is
      have hbl := HC2.out.len
      clear hix
      go_wp2_with fail
      go_loopw [16, 15] (fun s16 s15 wr => ∃ (k : Nat) (v2 : Value) (out : List Rn), v2 = s15 ∧ s16 = .int .i64 k ∧ k ≤ bs.length ∧ Hid (bs ≠ [] → JI (rowK odd ls y) y bs k out ∧ k + 1 ≤ bs.length) ∧ Hid (bs = [] → out = []) ∧ Hid (OwnR wr w.heap.size v2 out) ∧ Hid (OwnI wr w.heap.size (.slice Ax bs.length cx) bs) ∧ Hid (apart v2 (.slice Ax bs.length cx)) ∧ Hid (Below w.heap.size w wr)) (fun s16 _ _ => bs.length - (intOf s16).toNat)
      case atStart => exact ⟨0, _, [], rfl, rfl, Nat.zero_le _, hid (fun hne => ⟨JI.start (HC2.out.flat odd hne), by have := List.length_pos_iff.2 hne; omega⟩), hid (fun _ => rfl), hid (OwnR.nil _ _), HO, hid (apart.nil _), HB⟩
      case round =>
        clear HO HB
        obtain ⟨wx, rfl⟩ : ∃ wx, wx = wr := ⟨_, rfl⟩
        obtain ⟨k, v2, out, rfl, rfl, hk, HJ, HJ0, HOR, HO, HAP, HB⟩ := hrel
        by_cases hlt : k + 1 < bs.length
        · have hne : bs ≠ [] := by intro e; subst e; simp at hlt
          obtain ⟨hJ, -⟩ := HJ.out hne
          have HJI := hid hJ
          have HFL := hid (HC2.out.flat odd hne)
          have hb0 := HC2.out.range _ (List.getElem_mem (show k < bs.length by omega))
          have hb1 := HC2.out.range _ (List.getElem_mem hlt)
          have hb2 := sorted_lt HC2.out.s (show k < bs.length by omega) hlt (Nat.lt_succ_self k)
          obtain ⟨Ax', cx', eA, -, -, hix⟩ := HO.out.is
          injection eA with eA1 _ eA2
          subst eA1; subst eA2
          obtain ⟨g, rfl, hg, hx0⟩ := hix.at_ (show k < bs.length by omega)
          obtain ⟨g', eg, -, hx1⟩ := hix.at_ hlt
          cases eg
          have HX0 := hid hx0
          have HX1 := hid hx1
          have HGL := hid hg
          have hkk : (k : Int) + 1 < (bs.length : Int) := by omega
          have hki : (k : Int) < (bs.length : Int) := by omega
          have hk0 : (0 : Int) ≤ (k : Int) := Int.natCast_nonneg _
          have HW := hid (rwind_any A ls n c bs[k] y wx HNL.out HML.out (HLN0.out.next HB.out) HOK0.out (by omega))
          rw [windF_is HLEN.out] at HW
          have HKW := hid (rowK_is (odd := odd) (ls := ls) (y := y) (x := bs[k]) (by omega))
          have HJS := hid (fun h : rowK odd ls y bs[k] = false => hJ.skip HFL.out hlt h)
          have HJJ := hid (fun h : rowK odd ls y bs[k] = true => hJ.join HFL.out hlt ⟨hy1, hy2⟩ (fun b hb => HC2.out.range b hb) h)
          have hrl := hJ.n
          generalize bs[k] = b0 at hx0 HX0 HW HKW HJS HJJ hb0 hb2
          generalize bs[k + 1] = b1 at hx1 HX1 HJJ hb1 hb2
          generalize wind ls b0 y = Z at HW HKW
          rw [HKW.out] at HJS HJJ
          clear hJ hne hg hix HKW HJ
          go_wp2_with fail
          (with_reducible refine (HW.out).mono ?_); rintro e w5 ⟨rfl, hb⟩
          have HBB := hid (show w.heap.size ≤ wx.heap.size from HB.out.size)
          have HB5 := hid (HB.out.trans (hb.mono HBB.out))
          have HOR5 := hid (HOR.out.next hb)
          have HO5 := hid (HO.out.next hb)
          have HX05 := hid ((hb.cell (p := ⟨g, k, none⟩) HGL.out).trans HX0.out)
          have HX15 := hid ((hb.cell (p := ⟨g, k + 1, none⟩) HGL.out).trans HX1.out)
          have HGL5 := hid (Nat.lt_of_lt_of_le HGL.out hb.size)
          clear hb HOR HO HX0 HX1 hx0 hx1 HGL HB HW
          go_upto_region 20 with fail
          go_cut [94] (fun s94 wz => s94 = .bool (isF odd Z) ∧ wz = w5)
          case first =>
            cases odd with
            | false =>
              by_cases hz : Z = 0
              · subst hz
                go_wp2_with fail
                go_meet
                exact ⟨rfl, rfl⟩
              · have hz' : (Z != 0) = true := by simpa using hz
                go_wp2_with fail
                go_meet
                exact ⟨by rw [show isF false Z = true from hz'], rfl⟩
            | true =>
              have t1 := Int.lt_tmod_of_pos Z (show (0 : Int) < 2 by omega)
              have t2 := Int.tmod_lt_of_pos Z (show (0 : Int) < 2 by omega)
              by_cases hz : Z = 0
              · subst hz
                go_wp2_with fail
                go_meet
                exact ⟨rfl, rfl⟩
              · have hz' : (Z != 0) = true := by simpa using hz
                by_cases ht : Z.tmod 2 = 0
                · have ht' : (Z.tmod 2 != 0) = false := by simp [ht]
                  go_wp2_with fail
                  go_meet
                  exact ⟨by rw [show isF true Z = false from ht'], rfl⟩
                · have ht' : (Z.tmod 2 != 0) = true := by simpa using ht
                  go_wp2_with fail
                  go_meet
                  exact ⟨by rw [show isF true Z = true from ht'], rfl⟩
          case rest =>
            obtain ⟨h94, hwc⟩ := hcut
            subst hwc
            by_cases hF : isF odd Z = true
            · rw [hF] at h94
              subst h94
              have HJ2 := hid (HJJ.out hF)
              have HZ5 := hid (show w.heap.size ≤ wc.heap.size from HB5.out.size)
              go_upto_region 21 with fail
              refine wpIn_wide.1 (grow_tail (F := Fence.wide) (n := 0) 11 (by kernel_rfl) (by kernel_rfl) (by kernel_rfl) ?_)
              simp only [List.take_succ_cons, List.take_zero, List.drop_succ_cons, List.drop_zero]
              refine gq_val (v := v2) (fun _ => trivial) rfl (fun w' hw' => rfl) ?_
              simp only [Act.put, List.setIfInBounds_toArray, List.set_cons_succ, List.set_cons_zero]
              refine gq_val (v := .int .i64 y) (fun _ => trivial) rfl (fun w' hw' => rfl) ?_
              simp only [Act.put, List.setIfInBounds_toArray, List.set_cons_succ, List.set_cons_zero]
              refine gq_val (v := .slice (some ⟨g, 0, none⟩) bs.length cx) (fun _ => trivial) rfl (fun w' hw' => rfl) ?_
              simp only [Act.put, List.setIfInBounds_toArray, List.set_cons_succ, List.set_cons_zero]
              refine gq_val (v := .int .i64 (k : Int)) (fun _ => trivial) rfl (fun w' hw' => rfl) ?_
              simp only [Act.put, List.setIfInBounds_toArray, List.set_cons_succ, List.set_cons_zero]
              refine gq_val (v := .pointer (some ⟨g, k, none⟩)) (fun _ => trivial) rfl (fun w' hw' => run_idxI rfl rfl (by omega)) ?_
              simp only [Act.put, List.setIfInBounds_toArray, List.set_cons_succ, List.set_cons_zero]
              refine gq_val (v := .int .i64 b0) (fun _ => trivial) rfl (fun w' hw' => run_loadInt rfl ((hw'.cell (p := ⟨g, k, none⟩) HGL5.out).trans HX05.out)) ?_
              simp only [Act.put, List.setIfInBounds_toArray, List.set_cons_succ, List.set_cons_zero]
              refine gq_val (v := .slice (some ⟨g, 0, none⟩) bs.length cx) (fun _ => trivial) rfl (fun w' hw' => rfl) ?_
              simp only [Act.put, List.setIfInBounds_toArray, List.set_cons_succ, List.set_cons_zero]
              refine gq_val (v := .int .i64 (k : Int)) (fun _ => trivial) rfl (fun w' hw' => rfl) ?_
              simp only [Act.put, List.setIfInBounds_toArray, List.set_cons_succ, List.set_cons_zero]
              refine gq_val (v := .int .i64 ((k + 1 : Nat) : Int)) (fun _ => trivial) rfl (fun w' hw' => (run_add rfl rfl (by unfold Rg; omega)).trans (int_is (by omega))) ?_
              simp only [Act.put, List.setIfInBounds_toArray, List.set_cons_succ, List.set_cons_zero]
              refine gq_val (v := .pointer (some ⟨g, k + 1, none⟩)) (fun _ => trivial) rfl (fun w' hw' => run_idxI rfl rfl (by omega)) ?_
              simp only [Act.put, List.setIfInBounds_toArray, List.set_cons_succ, List.set_cons_zero]
              refine gq_val (v := .int .i64 b1) (fun _ => trivial) rfl (fun w' hw' => run_loadInt rfl ((hw'.cell (p := ⟨g, k + 1, none⟩) HGL5.out).trans HX15.out)) ?_
              simp only [Act.put, List.setIfInBounds_toArray, List.set_cons_succ, List.set_cons_zero]
              refine wpQuietIn_nil ?_
              rintro X4 hb4
              have HB6 := hid (HB5.out.trans (hb4.mono HZ5.out))
              have HOR6 := hid (HOR5.out.next hb4)
              have HO6 := hid (HO5.out.next hb4)
              have HZ6 := hid (Nat.le_trans HZ5.out hb4.size)
              clear hb4 HB5 HOR5 HO5 HX05 HX15 HGL5
              gi_wp2_with fail
              refine ⟨trivial, rfl, ?_⟩
              (refine (callsIn_wide.2 (joined_any v2 out y b0 b1 w.heap.size X4 HZ6.out HOR6.out (by omega))).mono ?_); rintro e w6 ⟨v3, rfl, hown, hgr⟩
              have HOR7 := hid hown
              have HO7 := hid (HO6.out.keep (hgr.keeps HAP.out fun q hq => (HO6.out.ge q hq).2))
              have HAP7 := hid (HAP.out.gr hgr fun q hq => (HO6.out.ge q hq).2)
              have HB7 := hid (HB6.out.trans (hgr.below HZ6.out fun q hq => (HOR6.out.ge q hq).1))
              clear hown hgr
              gi_wp2
              go_wp2_with fail
              go_roundw
              case rel => exact ⟨k + 1, v3, _, rfl, by go_num, by omega, hid (fun _ => ⟨HJ2.out, by omega⟩), hid (fun e => by subst e; simp at hlt), HOR7, HO7, HAP7, HB7⟩
              case measure => simp [intOf]; omega
            · have hF' : isF odd Z = false := by simpa using hF
              rw [hF'] at h94
              subst h94
              have HJ2 := hid (HJS.out hF')
              clear hF
              go_wp2_with fail
              go_roundw
              case rel => exact ⟨k + 1, _, out, rfl, by go_num, by omega, hid (fun _ => ⟨HJ2.out, by omega⟩), hid (fun e => by subst e; simp at hlt), HOR5, HO5, HAP, HB5⟩
              case measure => simp [intOf]; omega
        · have hend : bs ≠ [] → k + 1 = bs.length := fun h => by have := (HJ.out h).2; omega
          have hkk : ¬ (k : Int) + 1 < (bs.length : Int) := by omega
          have hk0 : (0 : Int) ≤ (k : Int) := Int.natCast_nonneg _
          have HRF := hid (show RowF odd ls y out from by
            by_cases hne : bs = []
            · rw [HJ0.out hne]
              exact RowF.none (hne ▸ HC2.out)
            · exact (HJ.out hne).1.last HC2.out (hend hne))
          clear hend HJ
          go_wp2_with fail
          go_ret
          exact ⟨_, rfl, out, HRF.out, HOR.out, HB.out⟩
end Go.Proofs.Ytijkoaggcmgjiaa
