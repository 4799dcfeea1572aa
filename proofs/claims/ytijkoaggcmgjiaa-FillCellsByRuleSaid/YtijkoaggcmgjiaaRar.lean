/- The reference's Area2. -/
import Derived.Test.YtijkoaggcmgjiaaRwn
import Derived.BigRegion
namespace Go.Proofs.Ytijkoaggcmgjiaa
open Go Go.RowKit
set_option linter.unusedVariables false
set_option linter.unusedSimpArgs false

set_option maxHeartbeats 4000000 in
set_option maxRecDepth 100000 in
theorem rarea2_any (A : Option Addr) (ls : List Ln) (n c : Nat) (w : World) (hn : n = ls.length) (hl : n ≤ maxLen) (hs : Lns w A ls) (hok : lchk ls = 0) :
    Calls Try.prog 81 #[.slice A n c] w fun e w' => e = .returned (.int .i64 (areaF (edgesL ls))) ∧ Below w.heap.size w w' := by
  have HOK := hid (lok_all (lok_of hok))
  obtain ⟨es, rfl, hE⟩ := hs.ext
  have HS := hid hE
  have HN := hid (show n = es.length by simpa using hn)
  unfold maxLen at hl
  obtain ⟨ls, hls⟩ : ∃ ls, ls = es.map LE.ln := ⟨_, rfl⟩
  have HLS := hid hls
  rw [← hls] at HOK ⊢
  obtain ⟨T, hT⟩ : ∃ T, T = areaF (edgesL ls) := ⟨_, rfl⟩
  have HT := hid hT
  rw [← hT]
  clear hs hn hE hls hok hT
  go_enter Try.func81, Try.ntmps81
  go_wp2_with fail
  go_loopw [11, 3] (fun s11 s3 wr => ∃ (i : Nat) (W : Int), i ≤ n ∧ s11 = .int .i64 i ∧ s3 = .int .i64 W ∧ Hid (T = (edgesL (ls.drop i)).foldl (stepA) W) ∧ Hid (Below w.heap.size w wr)) (fun s11 _ _ => n - (intOf s11).toNat)
  case atStart => exact ⟨0, 0, Nat.zero_le _, rfl, rfl, hid HT.out, hid (Below.refl _ w)⟩
  case round =>
    obtain ⟨wo, rfl⟩ : ∃ wo, wo = wr := ⟨_, rfl⟩
    obtain ⟨i, W, hi, rfl, rfl, HC, HB⟩ := hrel
    by_cases hlt : i < n
    · have hil : i < es.length := by rw [← HN.out]; exact hlt
      have hil2 : i < ls.length := by rw [HLS.out]; simpa using hil
      obtain ⟨a, rfl, hal, hsa⟩ := (HS.out.next HB.out).at_ hil
      have HC' := hid (show T = (edgs es[i].ps ++ edgesL (ls.drop (i + 1))).foldl (stepA) W from HC.out.trans (by rw [edgesL_at hil2]; congr 3; simp [HLS.out, LE.ln]))
      have HE := hid (show es[i]? = some es[i] from List.getElem?_eq_getElem hil)
      have HG := hid (show ∀ p ∈ es[i].ps, _ from fun p hp => HOK.out es[i].ln (by rw [HLS.out]; exact List.mem_map_of_mem (List.getElem_mem hil)) p hp)
      generalize es[i] = g at hsa HC' HE HG
      obtain ⟨c0, c1, hp, hpc, hpm⟩ := hsa
      have HPM := hid (Nat.le_trans hpc hpm)
      have HP0 := hid hp
      clear hp HC
      obtain ⟨m, hm⟩ : ∃ m, m = g.ps.length := ⟨_, rfl⟩
      have HM := hid hm
      obtain ⟨A', hA'⟩ : ∃ A', A' = g.A := ⟨_, rfl⟩
      rw [← hm, ← hA'] at c0
      rw [← hm] at HPM
      rw [← hA'] at HP0
      have HA := hid hA'
      have hml : m ≤ 2 ^ 63 - 1 := by have := HPM.out; unfold maxLen at this; omega
      clear hpc hpm hm hA' hal
      have HIL := hid (show i < n from hlt)
      go_wp2_with fail
      clear c0 c1
      go_loopw [6, 3] (fun s6 s3 wx => ∃ (k : Nat) (W : Int), k ≤ m ∧ s6 = .int .i64 k ∧ s3 = .int .i64 W ∧ Hid (T = ((edgs g.ps).drop k ++ edgesL (ls.drop (i + 1))).foldl stepA W) ∧ Hid (Below wo.heap.size wo wx)) (fun s6 _ _ => m - (intOf s6).toNat)
      case atStart => exact ⟨0, W, Nat.zero_le _, rfl, rfl, hid HC'.out, hid (Below.refl _ _)⟩
      case round =>
        clear HC'
        obtain ⟨wx, rfl⟩ : ∃ wx, wx = wr := ⟨_, rfl⟩
        obtain ⟨k, W, hk, rfl, rfl, HC, HBX⟩ := hrel
        by_cases hlt : k < m
        · have hkl : k < g.ps.length := by rw [← HM.out]; exact hlt
          obtain ⟨r, hr⟩ : ∃ r, (k + 1) % m = r := ⟨_, rfl⟩
          have hrm : r < m := by rw [← hr]; exact Nat.mod_lt _ (by omega)
          have hrl : r < g.ps.length := by rw [← HM.out]; exact hrm
          have h0l : 0 < g.ps.length := by omega
          have HC' := hid (show T = ((edgs g.ps).drop (k + 1) ++ edgesL (ls.drop (i + 1))).foldl stepA (stepA W (g.ps.getD k default, g.ps.getD r default)) from HC.out.trans (by rw [edgs_at hkl, ← HM.out, hr]; rfl))
          have hp := HP0.out.next HBX.out
          obtain ⟨bp, rfl, hbl, hb0⟩ := hp.at_ hkl
          obtain ⟨bp2, e2, -, hb1⟩ := hp.at_ hrl
          cases e2
          obtain ⟨bp2, e2, -, hbz⟩ := hp.at_ h0l
          cases e2
          have hj1 := HG.out _ (List.getElem_mem hkl)
          have hr1 := HG.out _ (List.getElem_mem hrl)
          rw [show g.ps.getD k default = g.ps[k] by simp [List.getD_eq_getElem?_getD, hkl], show g.ps.getD r default = g.ps[r] by simp [List.getD_eq_getElem?_getD, hrl]] at HC'
          have HZ := hid (show r = 0 → g.ps[r] = g.ps[0] from fun e => by subst e; rfl)
          clear hp HC
          generalize g.ps[k] = pj at hb0 HC' hj1
          generalize g.ps[r] = pr at hb1 HC' hr1 HZ
          generalize g.ps[0] = pz at hbz HZ
          rw [show bp.add (0 * 2) = bp by unfold Addr.add; simp] at hbz
          obtain ⟨⟨k1, k2⟩, k3, k4⟩ := hj1
          obtain ⟨⟨l1, l2⟩, l3, l4⟩ := hr1
          have a1 := prod_bd (a := pr.x) (b := pj.y) ⟨l1, l2⟩ ⟨k3, k4⟩
          have a2 := prod_bd (a := pj.x) (b := pr.y) ⟨k1, k2⟩ ⟨l3, l4⟩
          obtain ⟨P1, hP1⟩ : ∃ z, pr.x * pj.y = z := ⟨_, rfl⟩
          obtain ⟨P2', hP2⟩ : ∃ z, pj.x * pr.y = z := ⟨_, rfl⟩
          have HC2 := hid (show T = ((edgs g.ps).drop (k + 1) ++ edgesL (ls.drop (i + 1))).foldl stepA (wrap64 (W + (P1 - P2'))) by rw [HC'.out]; unfold stepA edA; dsimp only; rw [hP1, hP2])
          rw [hP1] at a1
          rw [hP2] at a2
          obtain ⟨a3, a4⟩ := a1
          obtain ⟨a5, a6⟩ := a2
          obtain ⟨x0, x1⟩ := hb0
          obtain ⟨z0, z1⟩ := hbz
          have HY := hid hb1
          have HB0 := hid hbl
          have hm0 : (0 : Int) < (m : Int) := by omega
          clear k1 k2 k3 k4 l1 l2 l3 l4 hkl hrl h0l HC' hb1
          go_upto_region 9 with fail
          rename_i Kn hKn
          have key : ∀ (g7 g8 : Nat) (w2 : World) (v25 v26 v27 v28 v29 v30 v31 : Value), Var w2 g7 (pcel pj) 40 → Var w2 g8 (pcel pz) 40 → g7 ≠ g8 → wx.heap.size ≤ g8 → Below wx.heap.size wx w2 →
              Kn { tmps := #[.slice (some a) n c, undef, .int .i64 0, .int .i64 W, .int .i64 i, .slice (some bp) m g.c, .int .i64 k, .pointer (some ⟨g7, 0, none⟩), .pointer (some ⟨g8, 0, none⟩), .slice (some a) n c, .int .i64 n, .int .i64 i, .bool true, .int .i64 i, .slice (some a) n c, .int .i64 i, .pointer (some (a.add (i * 2))), .pointer (some (a.add (i * 2))), .slice (some bp) m g.c, .int .i64 k, .slice (some bp) m g.c, .int .i64 m, .bool true, u23, u24, v25, v26, v27, v28, v29, v30, v31, u32, u33, u34, u35, u36, u37, u38, u39, u40, u41, u42, u43, u44, u45, u46, u47, u48, u49, u50, u51, u52, u53, u54, u55, undef], defers := [] } w2 := by
            intro g7 g8 w2 v25 v26 v27 v28 v29 v30 v31 hv7 hv8 h78 h8 hb2
            refine hKn _ _ ?_
            have HV7 := hid hv7
            have HV8 := hid hv8
            have HB2 := hid hb2
            obtain ⟨p0, p1, pf⟩ := hv7.read2
            obtain ⟨q0, q1, qf⟩ := hv8.read2
            clear hKn x0 x1 z0 z1 hv7 hv8 hb2 hm0
            by_cases hk1 : k + 1 < m
            · have hrk : r = k + 1 := by rw [← hr]; exact Nat.mod_eq_of_lt hk1
              obtain ⟨y0, y1⟩ := HY.out.below HB2.out (by rw [add_block]; exact HB0.out)
              rw [hrk] at y0 y1
              have hkc : ((k : Int) + 1) < (m : Int) := by omega
              have hmk : ((k : Int) + 1).toNat = k + 1 := by omega
              have HV7b := hid (((HV7.out.far (p := ⟨g8, 0, none⟩) h78 (.int .i64 pr.x)).far (p := ⟨g8, 1, none⟩) h78 (.int .i64 pr.y)))
              have HV8b := hid ((HV8.out.set (i := 0) (.int .i64 pr.x)).set (i := 1) (.int .i64 pr.y))
              have HB3 := hid (below_next HBX.out ((HB2.out.setCell (p := ⟨g8, 0, none⟩) h8 (.int .i64 pr.x)).setCell (p := ⟨g8, 1, none⟩) h8 (.int .i64 pr.y)))
              clear hr hrm hrk
              go_upto_region 12 with fail
              clear p0 p1 pf q0 q1 qf y0 y1
              generalize World.setCell _ ⟨g8, 1, none⟩ _ = w3 at HV7b HV8b HB3 ⊢
              obtain ⟨p0, p1, -⟩ := HV7b.out.read2
              obtain ⟨q0, q1, -⟩ := Var.read2 (show Var w3 g8 #[.int .i64 pr.x, .int .i64 pr.y] 40 from HV8b.out)
              go_wp2_with fail
              go_roundw
              case rel => exact ⟨k + 1, wrap64 (W + (P1 - P2')), by omega, by go_num, rfl, HC2, HB3⟩
              case measure => simp [intOf]; omega
            · have hrk : r = 0 := by
                have : k + 1 = m := by omega
                rw [← hr, this, Nat.mod_self]
              have hpz : pz = pr := (HZ.out hrk).symm
              rw [hpz] at q0 q1
              have HB3 := hid (below_next HBX.out HB2.out)
              have hk2 : ¬ ((k : Int) + 1) < (m : Int) := by omega
              clear hr hrm hrk
              go_wp2_with fail
              go_roundw
              case rel => exact ⟨k + 1, wrap64 (W + (P1 - P2')), by omega, by go_num, rfl, HC2, HB3⟩
              case measure => simp [intOf]; omega
          clear hKn
          have hbk : (bp.add (k * 2)).block < wx.heap.size := by rw [add_block]; exact HB0.out
          have hb00 := HB0.out
          have hmn : 0 < m := by omega
          rw [add_block] at x1
          have x1' : wx.cell? ⟨(bp.add (k * 2)).block, (bp.add (k * 2)).off + 1, none⟩ = some (.int .i64 pj.y) := by rw [add_block]; exact x1
          go_region
          all_goals first
            | exact key _ _ _ _ _ _ _ _ _ _ ((Var.new _ _ _ _ (by simp)).drew) (((Var.new _ _ _ _ rfl).alloc _).drew) (by omega) (by omega) (below_alloc (below_alloc (Below.refl _ wx) _) _).drew
            | exact key _ _ _ _ _ _ _ _ _ _ (((Var.new _ _ _ _ rfl).alloc _).drew) ((Var.new _ _ _ _ (by simp)).drew) (by omega) (by omega) (below_alloc (below_alloc (Below.refl _ wx) _) _).drew
        · have HC2 := hid (show T = (edgesL (ls.drop (i + 1))).foldl stepA W by rw [HC.out, List.drop_eq_nil_of_le (by rw [edgs_len, ← HM.out]; omega)]; rfl)
          have HB2 := hid (below_next HB.out HBX.out)
          have hIL := HIL.out
          clear HC
          go_wp2_with fail
          go_roundw
          case rel => exact ⟨i + 1, W, by omega, by go_num, rfl, HC2, HB2⟩
          case measure => simp [intOf]; omega
    · have HE := hid (show T = W by rw [HC.out, List.drop_eq_nil_of_le (by have := HN.out; rw [HLS.out, List.length_map]; omega)]; rfl)
      go_wp2_with fail
      go_ret
      exact ⟨by rw [HE.out]; rfl, HB.out⟩
end Go.Proofs.Ytijkoaggcmgjiaa
