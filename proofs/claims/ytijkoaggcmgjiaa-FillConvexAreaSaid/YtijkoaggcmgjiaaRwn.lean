/- The reference's Winding and Area2. -/
import Derived.Test.YtijkoaggcmgjiaaRfl
import Derived.Test.YtijkoaggcmgjiaaAre
namespace Go.Proofs.Ytijkoaggcmgjiaa
open Go Go.RowKit
set_option linter.unusedVariables false
set_option linter.unusedSimpArgs false

theorem grow_plain {P : Program} {id : Nat} {Q : Exit → Act → World → Prop} {a : Act} {w : World} {l : List Oper} (hnd : noDefer l.toArray = true) (hm : P.follows .mixedOrders = true) (hB : Region.lexB .any l.toArray = true)
    (h : wpQuietIn Fence.wide 0 P l.toArray (fun w' => Below w.heap.size w w') (fun a' => ∀ w', Below w.heap.size w w' → Q .normal a' w') l a) : (Code.region id l.toArray true).wp P Q a w :=
  wpIn_wide.1 (grow_round (F := Fence.wide) (n := 0) hnd hm hB h)
section
variable {ρ : Operand → Value} {dst : Option Tmp} {ty : TypeId} {pos : String} {af : Array Edge} {x y z : Operand} {w : World} {gd : Option (Nat × Bool)}
theorem run_indexPN {a : Addr} {j n c : Nat} (hx : ρ x = .slice (some a) n c) (hy : ρ y = .int .i64 j) (hj : j < n) :
    (execOp ρ { dst := dst, op := .indexAddr 36 x y, type := ty, pos := pos, after := af, guard := gd }).run Try.prog w = .ok (.value (.pointer (some (a.add (j * 2))))) w := by
  go_simp
theorem run_loadPtA {a : Addr} {p : P2} (hx : ρ x = .pointer (some a)) (h : PtAt w a p) :
    (execOp ρ { dst := dst, op := .load 40 x, type := ty, pos := pos, after := af, guard := gd }).run Try.prog w = .ok (.value (ptv p)) w := by
  obtain ⟨c0, c1⟩ := h
  go_simp
theorem run_lenPts {A : Option Addr} {n c : Nat} (hx : ρ x = .slice A n c) :
    (execOp ρ { dst := dst, op := .call { callee := .builtin .len, args := #[x], argTypes := #[36] }, type := ty, pos := pos, after := af, guard := gd }).run Try.prog w = .ok (.value (.int .i64 n)) w := by
  go_simp
theorem run_remN {j m r : Nat} (hx : ρ x = .int .i64 ((j : Int) + 1)) (hy : ρ y = .int .i64 m) (h : (j + 1) % m = r) (hm : 0 < m) :
    (execOp ρ { dst := dst, op := .binOp .rem 3 x y 3, type := ty, pos := pos, after := af, guard := gd }).run Try.prog w = .ok (.value (.int .i64 r)) w := by
  have h2 : Int.tmod ((j : Int) + 1) (m : Int) = (r : Int) := by rw [Int.tmod_eq_emod_of_nonneg (by omega), ← h]; simp
  have h1 : ((j : Int) + 1) % (m : Int) = (r : Int) := by rw [← h]; simp
  have h3 : ¬ m = 0 := by omega
  clear h
  go_simp
end
theorem enters_crossed : Enters Try.prog 90 := enters_of Try.func90 (by kernel_rfl) rfl
theorem stepW_no {x y s : Int} {e : Ed} (h : (slp e.1 e.2).hit y = false) : stepW x y s e = s := by unfold stepW; rw [h]; rfl
theorem stepW_out {x y s : Int} {e : Ed} (h : ¬ (slp e.1 e.2).cell y ≤ x) : stepW x y s e = s := by unfold stepW; rw [show decide ((slp e.1 e.2).cell y ≤ x) = false by simpa using h, Bool.and_false]; rfl
theorem stepW_in {x y s : Int} {e : Ed} (h : (slp e.1 e.2).hit y = true) (h2 : (slp e.1 e.2).cell y ≤ x) : stepW x y s e = wrap64 (s + (slp e.1 e.2).d) := by unfold stepW; rw [h, show decide ((slp e.1 e.2).cell y ≤ x) = true by simpa using h2]; rfl
theorem slp_d (p q : P2) : (slp p q).d = 1 ∨ (slp p q).d = -1 := by unfold slp; split <;> simp

set_option maxHeartbeats 4000000 in
set_option maxRecDepth 100000 in
theorem rwind_any (A : Option Addr) (ls : List Ln) (n c : Nat) (x y : Int) (w : World) (hn : n = ls.length) (hl : n ≤ maxLen) (hs : Lns w A ls) (hok : lchk ls = 0) (hx : -8192 ≤ x ∧ x ≤ 8191) :
    Calls Try.prog 93 #[.slice A n c, .int .i64 x, .int .i64 y] w fun e w' => e = .returned (.int .i64 (windF (edgesL ls) x y)) ∧ Below w.heap.size w w' := by
  have HOK := hid (lok_all (lok_of hok))
  obtain ⟨es, rfl, hE⟩ := hs.ext
  have HS := hid hE
  have HN := hid (show n = es.length by simpa using hn)
  unfold maxLen at hl
  obtain ⟨ls, hls⟩ : ∃ ls, ls = es.map LE.ln := ⟨_, rfl⟩
  have HLS := hid hls
  rw [← hls] at HOK ⊢
  obtain ⟨T, hT⟩ : ∃ T, T = windF (edgesL ls) x y := ⟨_, rfl⟩
  have HT := hid hT
  rw [← hT]
  obtain ⟨hx1, hx2⟩ := hx
  clear hs hn hE hls hok hT
  go_enter Try.func93, Try.ntmps93
  go_wp2_with fail
  go_loopw [16, 7] (fun s16 s7 wr => ∃ (i : Nat) (W : Int), i ≤ n ∧ s16 = .int .i64 i ∧ s7 = .int .i64 W ∧ Hid (T = (edgesL (ls.drop i)).foldl (stepW x y) W) ∧ Hid (Below w.heap.size w wr)) (fun s16 _ _ => n - (intOf s16).toNat)
  case atStart => exact ⟨0, 0, Nat.zero_le _, rfl, rfl, hid HT.out, hid (Below.refl _ w)⟩
  case round =>
    obtain ⟨wo, rfl⟩ : ∃ wo, wo = wr := ⟨_, rfl⟩
    obtain ⟨i, W, hi, rfl, rfl, HC, HB⟩ := hrel
    by_cases hlt : i < n
    · have hil : i < es.length := by rw [← HN.out]; exact hlt
      have hil2 : i < ls.length := by rw [HLS.out]; simpa using hil
      obtain ⟨a, rfl, hal, hsa⟩ := (HS.out.next HB.out).at_ hil
      have HC' := hid (show T = (edgs es[i].ps ++ edgesL (ls.drop (i + 1))).foldl (stepW x y) W from HC.out.trans (by rw [edgesL_at hil2]; congr 3; simp [HLS.out, LE.ln]))
      have HE := hid (show es[i]? = some es[i] from List.getElem?_eq_getElem hil)
      have HG := hid (show ∀ p ∈ es[i].ps, _ from fun p hp => HOK.out es[i].ln (by rw [HLS.out]; exact List.mem_map_of_mem (List.getElem_mem hil)) p hp)
      generalize es[i] = g at hsa HC' HE HG
      obtain ⟨c0, c1, hp, hpc, hpm⟩ := hsa
      have HPM := hid (Nat.le_trans hpc hpm)
      have HP0 := hid hp
      clear hp HC
      obtain ⟨m, hm⟩ : ∃ m, m = g.ps.length := ⟨_, rfl⟩
      have HM := hid hm
      obtain ⟨A', hA'⟩ : ∃ A', A' = g.A := ⟨_, rfl⟩
      rw [← hm, ← hA'] at c0
      rw [← hm] at HPM
      rw [← hA'] at HP0
      have HA := hid hA'
      have hml : m ≤ 2 ^ 63 - 1 := by have := HPM.out; unfold maxLen at this; omega
      clear hpc hpm hm hA' hal
      have HIL := hid (show i < n from hlt)
      go_wp2_with fail
      clear c0 c1
      go_loopw [26, 7] (fun s26 s7 wx => ∃ (k : Nat) (W : Int), k ≤ m ∧ s26 = .int .i64 k ∧ s7 = .int .i64 W ∧ Hid (T = ((edgs g.ps).drop k ++ edgesL (ls.drop (i + 1))).foldl (stepW x y) W) ∧ Hid (Below wo.heap.size wo wx)) (fun s26 _ _ => m - (intOf s26).toNat)
      case atStart => exact ⟨0, W, Nat.zero_le _, rfl, rfl, hid HC'.out, hid (Below.refl _ _)⟩
      case round =>
        clear HC'
        obtain ⟨wx, rfl⟩ : ∃ wx, wx = wr := ⟨_, rfl⟩
        obtain ⟨k, W, hk, rfl, rfl, HC, HBX⟩ := hrel
        by_cases hlt : k < m
        · have hkl : k < g.ps.length := by rw [← HM.out]; exact hlt
          obtain ⟨r, hr⟩ : ∃ r, (k + 1) % m = r := ⟨_, rfl⟩
          have hrm : r < m := by rw [← hr]; exact Nat.mod_lt _ (by omega)
          have hrl : r < g.ps.length := by rw [← HM.out]; exact hrm
          have HC' := hid (show T = ((edgs g.ps).drop (k + 1) ++ edgesL (ls.drop (i + 1))).foldl (stepW x y) (stepW x y W (g.ps.getD k default, g.ps.getD r default)) from HC.out.trans (by rw [edgs_at hkl, ← HM.out, hr]; rfl))
          have hp := HP0.out.next HBX.out
          obtain ⟨bp, rfl, hbl, hb0⟩ := hp.at_ hkl
          obtain ⟨bp2, e2, -, hb1⟩ := hp.at_ hrl
          cases e2
          have hj1 := HG.out _ (List.getElem_mem hkl)
          have hr1 := HG.out _ (List.getElem_mem hrl)
          rw [show g.ps.getD k default = g.ps[k] by simp [List.getD_eq_getElem?_getD, hkl], show g.ps.getD r default = g.ps[r] by simp [List.getD_eq_getElem?_getD, hrl]] at HC'
          clear hp HC
          generalize g.ps[k] = pj at hb0 HC' hj1
          generalize g.ps[r] = pr at hb1 HC' hr1
          have HIN := hid (slp_in hj1 hr1)
          have HRD := hid hr
          have hIL := HIL.out
          clear hj1 hr1
          go_upto_region 9 with fail
          refine grow_plain (by kernel_rfl) (by kernel_rfl) (by kernel_rfl) ?_
          refine gq_val (v := .slice (some bp) m g.c) (fun _ => trivial) rfl (fun w' hw' => rfl) ?_
          simp only [Act.put, List.setIfInBounds_toArray, List.set_cons_succ, List.set_cons_zero]
          refine gq_val (v := .int .i64 k) (fun _ => trivial) rfl (fun w' hw' => rfl) ?_
          simp only [Act.put, List.setIfInBounds_toArray, List.set_cons_succ, List.set_cons_zero]
          refine gq_val (v := .pointer (some (bp.add (k * 2)))) (fun _ => trivial) rfl (fun w' hw' => run_indexPN rfl rfl hlt) ?_
          simp only [Act.put, List.setIfInBounds_toArray, List.set_cons_succ, List.set_cons_zero]
          refine gq_val (v := ptv pj) (fun _ => trivial) rfl (fun w' hw' => run_loadPtA rfl (hb0.below hw' (by rw [add_block]; exact hbl))) ?_
          simp only [Act.put, List.setIfInBounds_toArray, List.set_cons_succ, List.set_cons_zero]
          refine gq_val (v := .slice (some bp) m g.c) (fun _ => trivial) rfl (fun w' hw' => rfl) ?_
          simp only [Act.put, List.setIfInBounds_toArray, List.set_cons_succ, List.set_cons_zero]
          refine gq_val (v := .int .i64 k) (fun _ => trivial) rfl (fun w' hw' => rfl) ?_
          simp only [Act.put, List.setIfInBounds_toArray, List.set_cons_succ, List.set_cons_zero]
          refine gq_val (v := .int .i64 ((k : Int) + 1)) (fun _ => trivial) rfl (fun w' hw' => run_add rfl rfl (by unfold Rg; omega)) ?_
          simp only [Act.put, List.setIfInBounds_toArray, List.set_cons_succ, List.set_cons_zero]
          refine gq_val (v := .slice (some bp) m g.c) (fun _ => trivial) rfl (fun w' hw' => rfl) ?_
          simp only [Act.put, List.setIfInBounds_toArray, List.set_cons_succ, List.set_cons_zero]
          refine gq_val (v := .int .i64 m) (fun _ => trivial) rfl (fun w' hw' => run_lenPts rfl) ?_
          simp only [Act.put, List.setIfInBounds_toArray, List.set_cons_succ, List.set_cons_zero]
          refine gq_val (v := .int .i64 r) (fun _ => trivial) rfl (fun w' hw' => run_remN rfl rfl hr (by omega)) ?_
          simp only [Act.put, List.setIfInBounds_toArray, List.set_cons_succ, List.set_cons_zero]
          refine gq_val (v := .pointer (some (bp.add (r * 2)))) (fun _ => trivial) rfl (fun w' hw' => run_indexPN rfl rfl hrm) ?_
          simp only [Act.put, List.setIfInBounds_toArray, List.set_cons_succ, List.set_cons_zero]
          refine gq_val (v := ptv pr) (fun _ => trivial) rfl (fun w' hw' => run_loadPtA rfl (hb1.below hw' (by rw [add_block]; exact hbl))) ?_
          simp only [Act.put, List.setIfInBounds_toArray, List.set_cons_succ, List.set_cons_zero]
          refine gq_val (v := .int .i64 y) (fun _ => trivial) rfl (fun w' hw' => rfl) ?_
          simp only [Act.put, List.setIfInBounds_toArray, List.set_cons_succ, List.set_cons_zero]
          by_cases hit : (slp pj pr).hit y = true
          · have HCY := hid (fun w' => crossed_yes pj pr y w' HIN.out hit)
            have HLE := hid (Sl.cell_le (s := slp pj pr) (x := x) (y := y) (Sl.hit_h hit))
            have hH : 0 < (slp pj pr).h ∧ (slp pj pr).h ≤ 65534 := ⟨Sl.hit_h hit, by have := HIN.out.ty; have := HIN.out.by_; unfold Sl.h; omega⟩
            have hN := num_bd HIN.out hit
            have hD := slp_d pj pr
            obtain ⟨H, hH2⟩ : ∃ H, (slp pj pr).h = H := ⟨_, rfl⟩
            obtain ⟨N, hN2⟩ : ∃ N, (slp pj pr).num y = N := ⟨_, rfl⟩
            obtain ⟨D, hD2⟩ : ∃ N, (slp pj pr).d = N := ⟨_, rfl⟩
            rw [hH2] at HCY HLE hH
            rw [hN2] at HCY HLE hN
            rw [hD2] at HCY hD
            have HD2 := hid hD2
            clear hH2 hN2 hD2
            refine gq_call (v := .tuple #[.int .i64 D, .int .i64 N, .int .i64 H]) (f := 90) (args := #[ptv pj, ptv pr, .int .i64 y]) (fun _ => trivial) rfl rfl (fun _ => run_call3 rfl enters_crossed) (fun w' hw' => (callsIn_wide.2 (HCY.out w')).mono fun e w'' he => ⟨he.1, below_next hw' he.2⟩) ?_
            simp only [Act.put, List.setIfInBounds_toArray, List.set_cons_succ, List.set_cons_zero]
            refine gq_val (v := .tuple #[.int .i64 D, .int .i64 N, .int .i64 H]) (fun _ => trivial) rfl (fun w' hw' => rfl) ?_
            simp only [Act.put, List.setIfInBounds_toArray, List.set_cons_succ, List.set_cons_zero]
            refine gq_val (v := .int .i64 D) (fun _ => trivial) rfl (fun w' hw' => rfl) ?_
            simp only [Act.put, List.setIfInBounds_toArray, List.set_cons_succ, List.set_cons_zero]
            refine gq_val (v := .int .i64 N) (fun _ => trivial) rfl (fun w' hw' => rfl) ?_
            simp only [Act.put, List.setIfInBounds_toArray, List.set_cons_succ, List.set_cons_zero]
            refine gq_val (v := .int .i64 H) (fun _ => trivial) rfl (fun w' hw' => rfl) ?_
            simp only [Act.put, List.setIfInBounds_toArray, List.set_cons_succ, List.set_cons_zero]
            refine gq_val (v := .int .i64 D) (fun _ => trivial) rfl (fun w' hw' => rfl) ?_
            simp only [Act.put, List.setIfInBounds_toArray, List.set_cons_succ, List.set_cons_zero]
            refine gq_val (v := .int .i64 N) (fun _ => trivial) rfl (fun w' hw' => rfl) ?_
            simp only [Act.put, List.setIfInBounds_toArray, List.set_cons_succ, List.set_cons_zero]
            refine gq_val (v := .int .i64 H) (fun _ => trivial) rfl (fun w' hw' => rfl) ?_
            simp only [Act.put, List.setIfInBounds_toArray, List.set_cons_succ, List.set_cons_zero]
            refine wpQuietIn_nil ?_
            rintro X4 hb4
            have HB4 := hid (below_next HBX.out hb4)
            have a1 := mul_abs (a := 2 * x + 1) (b := H) (A := 16385) (B := 65534) (by omega) (by omega)
            obtain ⟨P, hP⟩ : ∃ P, (2 * x + 1) * H = P := ⟨_, rfl⟩
            rw [hP] at a1 HLE
            have hd0 : (D != 0) = true := by rcases hD with h | h <;> rw [h] <;> rfl
            obtain ⟨a2, a3⟩ := a1
            clear hD hb4 HCY
            by_cases hle : N ≤ P
            · have HC2 := hid (show T = ((edgs g.ps).drop (k + 1) ++ edgesL (ls.drop (i + 1))).foldl (stepW x y) (wrap64 (W + D)) by rw [HC'.out, stepW_in (e := (pj, pr)) hit (HLE.out.2 hle), show (slp (pj, pr).1 (pj, pr).2).d = D from HD2.out])
              clear HC' HLE hit hb0 hb1 hbl hr
              go_wp2_with fail
              go_roundw
              case rel => exact ⟨k + 1, wrap64 (W + D), by omega, by go_num, rfl, HC2, HB4⟩
              case measure => simp [intOf]; omega
            · have HC2 := hid (show T = ((edgs g.ps).drop (k + 1) ++ edgesL (ls.drop (i + 1))).foldl (stepW x y) W by rw [HC'.out, stepW_out (e := (pj, pr)) (fun h => hle (HLE.out.1 h))])
              clear HC' HLE hit hb0 hb1 hbl hr
              go_wp2_with fail
              go_roundw
              case rel => exact ⟨k + 1, W, by omega, by go_num, rfl, HC2, HB4⟩
              case measure => simp [intOf]; omega
          · replace hit : (slp pj pr).hit y = false := by simpa using hit
            refine gq_call (v := .tuple #[.int .i64 0, .int .i64 0, .int .i64 1]) (f := 90) (args := #[ptv pj, ptv pr, .int .i64 y]) (fun _ => trivial) rfl rfl (fun _ => run_call3 rfl enters_crossed) (fun w' hw' => (callsIn_wide.2 (crossed_no pj pr y w' hit)).mono fun e w'' he => ⟨he.1, below_next hw' he.2⟩) ?_
            simp only [Act.put, List.setIfInBounds_toArray, List.set_cons_succ, List.set_cons_zero]
            refine gq_val (v := .tuple #[.int .i64 0, .int .i64 0, .int .i64 1]) (fun _ => trivial) rfl (fun w' hw' => rfl) ?_
            simp only [Act.put, List.setIfInBounds_toArray, List.set_cons_succ, List.set_cons_zero]
            refine gq_val (v := .int .i64 0) (fun _ => trivial) rfl (fun w' hw' => rfl) ?_
            simp only [Act.put, List.setIfInBounds_toArray, List.set_cons_succ, List.set_cons_zero]
            refine gq_val (v := .int .i64 0) (fun _ => trivial) rfl (fun w' hw' => rfl) ?_
            simp only [Act.put, List.setIfInBounds_toArray, List.set_cons_succ, List.set_cons_zero]
            refine gq_val (v := .int .i64 1) (fun _ => trivial) rfl (fun w' hw' => rfl) ?_
            simp only [Act.put, List.setIfInBounds_toArray, List.set_cons_succ, List.set_cons_zero]
            refine gq_val (v := .int .i64 0) (fun _ => trivial) rfl (fun w' hw' => rfl) ?_
            simp only [Act.put, List.setIfInBounds_toArray, List.set_cons_succ, List.set_cons_zero]
            refine gq_val (v := .int .i64 0) (fun _ => trivial) rfl (fun w' hw' => rfl) ?_
            simp only [Act.put, List.setIfInBounds_toArray, List.set_cons_succ, List.set_cons_zero]
            refine gq_val (v := .int .i64 1) (fun _ => trivial) rfl (fun w' hw' => rfl) ?_
            simp only [Act.put, List.setIfInBounds_toArray, List.set_cons_succ, List.set_cons_zero]
            refine wpQuietIn_nil ?_
            rintro X4 hb4
            have HB4 := hid (below_next HBX.out hb4)
            have HC2 := hid (show T = ((edgs g.ps).drop (k + 1) ++ edgesL (ls.drop (i + 1))).foldl (stepW x y) W by rw [HC'.out, stepW_no (e := (pj, pr)) hit])
            clear HC' hit hb0 hb1 hbl hr hb4
            go_wp2_with fail
            go_roundw
            case rel => exact ⟨k + 1, W, by omega, by go_num, rfl, HC2, HB4⟩
            case measure => simp [intOf]; omega
        · have HC2 := hid (show T = (edgesL (ls.drop (i + 1))).foldl (stepW x y) W by rw [HC.out, List.drop_eq_nil_of_le (by rw [edgs_len, ← HM.out]; omega)]; rfl)
          have HB2 := hid (below_next HB.out HBX.out)
          have hIL := HIL.out
          clear HC
          go_wp2_with fail
          go_roundw
          case rel => exact ⟨i + 1, W, by omega, by go_num, rfl, HC2, HB2⟩
          case measure => simp [intOf]; omega
    · have HE := hid (show T = W by rw [HC.out, List.drop_eq_nil_of_le (by have := HN.out; rw [HLS.out, List.length_map]; omega)]; rfl)
      go_wp2_with fail
      go_ret
      exact ⟨by rw [HE.out]; rfl, HB.out⟩
end Go.Proofs.Ytijkoaggcmgjiaa
