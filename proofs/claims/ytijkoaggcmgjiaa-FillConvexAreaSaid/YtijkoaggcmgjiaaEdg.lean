/- The edges of lines, one at a time. -/
import Derived.Test.YtijkoaggcmgjiaaTail
import Derived.Test.YtijkoaggcmgjiaaSlp
namespace Go.Proofs.Ytijkoaggcmgjiaa
open Go Go.RowKit Go.Shelf
attribute [local go_sem] Oper.semAt_some
set_option linter.unusedVariables false
set_option linter.unusedSimpArgs false

/-- v is edge k. -/
def EdAt (ls : List Ln) (k : Nat) (v : Array Value) (A : World) : Prop := ∃ e, (edgesL ls)[k]? = some e ∧ v = #[ptv e.1, ptv e.2]
theorem edgesL_atE {es : List LE} {i : Nat} (h : i < es.length) : edgesL ((es.map LE.ln).drop i) = edgs es[i].ps ++ edgesL ((es.map LE.ln).drop (i + 1)) := by
  rw [edgesL_at (by simpa using h)]
  congr 2
  simp [LE.ln]
theorem edgs_at {ps : List P2} {j : Nat} (h : j < ps.length) : (edgs ps).drop j = (ps.getD j default, ps.getD ((j + 1) % ps.length) default) :: (edgs ps).drop (j + 1) := by
  have h1 : j < (edgs ps).length := by rw [edgs_len]; exact h
  rw [List.drop_eq_getElem_cons h1]
  congr 1
  have h2 := edgs_get h
  rw [List.getElem?_eq_getElem h1] at h2
  exact Option.some.inj h2
theorem drop_consE {l t : List Ed} {k : Nat} {s : Ed} (h : l.drop k = s :: t) : k < l.length ∧ l[k]? = some s ∧ l.drop (k + 1) = t := by
  have hk : k < l.length := by
    rcases Nat.lt_or_ge k l.length with h' | h'
    · exact h'
    · rw [List.drop_eq_nil_of_le h'] at h; cases h
  rw [List.drop_eq_getElem_cons hk] at h
  have h1 := (List.cons.inj h).1
  exact ⟨hk, by rw [List.getElem?_eq_getElem hk, h1], (List.cons.inj h).2⟩

theorem edges_make (A : Option Addr) (n c : Nat) (w : World) :
    Calls Try.prog 54 #[.slice A n c] w fun e w' => e = .returned (.func (.func 96) #[] #[.pointer (some ⟨w.heap.size, 0, none⟩)]) ∧ w' = w.alloc (.cells #[.slice A n c] 22) := by
  go_enter Try.func54, Try.ntmps54
  go_wp2_with fail
  go_ret
  exact ⟨rfl, rfl⟩

abbrev lcel (e : LE) : Array Value := #[.slice e.A e.ps.length e.c, .bool e.cl]

set_option maxRecDepth 100000 in
set_option maxHeartbeats 2000000 in
theorem edges_iter (m : Nat) (hm : 1 ≤ m) (b : Nat) (A : Option Addr) (es : List LE) (n c : Nat) (I : Nat → (Nat → Prop) → World → Prop) (hn : n = es.length) (hl : n ≤ maxLen)
    (hI : ∀ k M W, I k M W → W.cell? ⟨b, 0, none⟩ = some (.slice A n c) ∧ LnsE W A es) : SeqA Fence.wide m Try.prog 96 #[.pointer (some ⟨b, 0, none⟩)] (EdAt (es.map LE.ln)) (edgesL (es.map LE.ln)).length I := by
  intro l J Jx M V hJ hJI hJM hY h0
  have HN := hid hn
  have HLn := hid hl
  unfold maxLen at hl
  have HI := hid hI
  have HJ := hid hJ
  have HJI := hid hJI
  have HJM := hid hJM
  have HY := hid hY
  have H0 := hid h0
  clear hI hJ hJI hJM hY h0 hn
  obtain ⟨ls, hls⟩ : ∃ ls, ls = es.map LE.ln := ⟨_, rfl⟩
  have HLS := hid hls
  rw [← hls] at HY ⊢
  clear hls
  obtain ⟨q0, qr⟩ := HI.out _ _ _ (HJI.out _ _ _ H0.out)
  clear qr
  refine callsIn_of_wp Try.func96 rfl trivial ?_ rfl
  simp only [Try.ntmps96, List.size_toArray, List.length_cons, List.length_nil, Nat.reduceAdd, Nat.reduceSub, Array.replicate_succ, Array.replicate_zero, List.push_toArray, List.append_toArray, List.nil_append, List.cons_append]
  gi_wp2
  clear q0
  gi_loopw [9] (fun s9 wr => ∃ (i k : Nat) (M : Nat → Prop), i ≤ n ∧ k ≤ (edgesL ls).length ∧ s9 = .int .i64 i ∧ Hid (J k M wr ∧ (edgesL ls).drop k = edgesL (ls.drop i))) (fun s9 _ => n - (intOf s9).toNat)
  case atStart => exact ⟨0, 0, M, Nat.zero_le _, Nat.zero_le _, rfl, hid ⟨H0.out, rfl⟩⟩
  case round =>
    clear H0
    obtain ⟨i, k, M, hi, hk, rfl, HK⟩ := hrel
    by_cases hlt : i < n
    · have hlz : i < es.length := by rw [← HN.out]; exact hlt
      obtain ⟨-, qr⟩ := HI.out _ _ _ (HJI.out _ _ _ HK.out.1)
      obtain ⟨a, rfl, hal, hsa⟩ := qr.at_ hlz
      have HD := hid (show (edgesL ls).drop k = edgs es[i].ps ++ edgesL (ls.drop (i + 1)) from HK.out.2.trans (by rw [HLS.out]; exact edgesL_atE hlz))
      have HE := hid (show es[i]? = some es[i] from List.getElem?_eq_getElem hlz)
      generalize es[i] = g at hsa HD HE
      obtain ⟨c0, c1, hp, hle, hmx⟩ := hsa
      clear qr hp
      obtain ⟨mm, hmm⟩ : ∃ mm, mm = g.ps.length := ⟨_, rfl⟩
      have HM := hid hmm
      have hml : mm ≤ 2 ^ 63 - 1 := by unfold maxLen at hmx; omega
      obtain ⟨A', hA'⟩ : ∃ A', A' = g.A := ⟨_, rfl⟩
      rw [← hmm, ← hA'] at c0
      have HA := hid hA'
      clear hmm hle hmx hA'
      have HJ2 := hid (HJ.out _ _ _ _ HK.out.1 ((Below.refl _ wr).alloc (Nat.le_refl _) (.cells #[.slice A' mm g.c, .bool g.cl] 38)))
      have HM2 : Hid (¬ M wr.heap.size) := hid (fun h => Nat.lt_irrefl _ (HJM.out _ _ _ HK.out.1 _ h))
      have HV2 := hid (Var.new wr #[.slice A' mm g.c, .bool g.cl] 38 _ rfl)
      have HLT := hid hlt
      gi_wp2
      clear c0 c1 HK hal
      generalize hB : wr.heap.size = B at HV2 HM2 ⊢
      obtain ⟨W2, hW2⟩ : ∃ W2, W2 = wr.alloc (.cells #[.slice A' mm g.c, .bool g.cl] 38) := ⟨_, rfl⟩
      rw [← hW2] at HV2 HJ2
      rw [← hW2]
      clear hW2 hB
      gi_loopw [16] (fun s16 wx => ∃ (j k : Nat) (M : Nat → Prop), j ≤ mm ∧ k ≤ (edgesL ls).length ∧ s16 = .int .i64 j ∧ Hid (J k M wx ∧ ¬ M B ∧ Var wx B #[.slice A' mm g.c, .bool g.cl] 38 ∧ (edgesL ls).drop k = (edgs g.ps).drop j ++ edgesL (ls.drop (i + 1)))) (fun s16 _ => mm - (intOf s16).toNat)
      case atStart => exact ⟨0, k, M, Nat.zero_le _, hk, rfl, hid ⟨HJ2.out, HM2.out, HV2.out, by rw [List.drop_zero]; exact HD.out⟩⟩
      case round =>
        clear HV2 HJ2 HM2 HD hk hi hlz
        obtain ⟨wx, rfl⟩ : ∃ wx, wx = wr := ⟨_, rfl⟩
        obtain ⟨j, k, M, hj, hk, rfl, HK⟩ := hrel
        obtain ⟨c0, c1, -⟩ := HK.out.2.2.1.read2
        by_cases hlj : j < mm
        · have hjl : j < g.ps.length := by rw [← HM.out]; exact hlj
          obtain ⟨r, hr⟩ : ∃ r, r = (j + 1) % mm := ⟨_, rfl⟩
          have hrm : r < mm := by rw [hr]; exact Nat.mod_lt _ (by omega)
          have hrl : r < g.ps.length := by rw [← HM.out]; exact hrm
          have hr1 : ((j : Int) + 1) % (mm : Int) = (r : Int) := by rw [hr]; simp
          have hr2 : Int.tmod ((j : Int) + 1) (mm : Int) = (r : Int) := by rw [Int.tmod_eq_emod_of_nonneg (by omega)]; exact hr1
          obtain ⟨d1, d2, d3⟩ := drop_consE (HK.out.2.2.2.trans (by rw [edgs_at hjl, List.cons_append]))
          rw [← HM.out, ← hr] at d2
          have D1 := hid d1
          have D3 := hid d3
          obtain ⟨-, qr⟩ := HI.out _ _ _ (HJI.out _ _ _ HK.out.1)
          obtain ⟨a2, ha2, -, hsa⟩ := qr.at_ (by rw [← HN.out]; exact HLT.out)
          have hge : es[i]'(by rw [← HN.out]; exact HLT.out) = g := by
            have := HE.out
            rw [List.getElem?_eq_getElem (by rw [← HN.out]; exact HLT.out)] at this
            exact Option.some.inj this
          rw [hge] at hsa
          have hp := hsa.pts
          rw [← HA.out] at hp
          clear hsa qr ha2 hge
          obtain ⟨bp, rfl, hbl, hb0⟩ := hp.at_ hjl
          obtain ⟨bp2, e2, -, hb1⟩ := hp.at_ hrl
          cases e2
          have e0 : g.ps.getD j default = g.ps[j] := by simp [List.getD_eq_getElem?_getD, hjl]
          have e1 : g.ps.getD r default = g.ps[r] := by simp [List.getD_eq_getElem?_getD, hrl]
          rw [e0, e1] at d2
          clear hp e0 e1 hr
          generalize g.ps[j] = pj at hb0 d2
          generalize g.ps[r] = pr at hb1 d2
          obtain ⟨x0, x1⟩ := hb0
          obtain ⟨y0, y1⟩ := hb1
          obtain ⟨fn, tmps, assign, body, hy, hR⟩ := HY.out k M #[.agg #[.int .i64 pj.x, .int .i64 pj.y], .agg #[.int .i64 pr.x, .int .i64 pr.y]] _ (HJ.out _ _ _ _ HK.out.1 (((Below.refl _ wx).alloc (Nat.le_refl _) (.cells (pcel pj) 40)).drew)) d1 ⟨_, d2, rfl⟩
          have hw : IntKind.i64.wrap ((j : Int) + 1) = (j : Int) + 1 := IntWalk.i64_in _ (by omega)
          have hmz : ¬ mm = 0 := by omega
          have hri : (r : Int) < (mm : Int) := by omega
          have HVB := HK.out.2.2.1.alloc (.cells (pcel pj) 40)
          have HVP := Var.new wx (pcel pj) 40 _ rfl
          obtain ⟨z0, z1⟩ : PtAt (wx.alloc (.cells (pcel pj) 40)) (bp.add (r * 2)) pr := PtAt.below (B := wx.heap.size) ⟨y0, y1⟩ ((Below.refl _ wx).alloc (Nat.le_refl _) _) (by rw [add_block]; exact hbl)
          gi_wp2
          clear x0 x1 y0 y1 c0 c1
          obtain ⟨X, hX⟩ : ∃ X, X = wx.alloc (.cells (pcel pj) 40) := ⟨_, rfl⟩
          rw [← hX] at HVB HVP z0 z1 hR hy
          rw [← hX]
          have HXE := hid hX
          clear hX
          obtain ⟨b0, b1, -⟩ := HVB.read2
          obtain ⟨p0, p1, -⟩ := HVP.read2
          refine wpIn_region_still_tail 12 (by kernel_rfl) (by kernel_rfl) ?_
          simp only [List.take_succ_cons, List.take_zero, List.drop_succ_cons, List.drop_zero]
          repeat still_step
          try refine wpStill_nil ?_
          have HBX := hid (HVB)
          have HKX : Hid (Kept M wx X.drew) := hid (by rw [HXE.out]; exact (Kept.below ((Below.refl _ wx).alloc (Nat.le_refl _) (.cells (pcel pj) 40))).trans (Kept.below (Below.refl _ _).drew))
          clear HVB HVP z0 z1 b0 b1 p0 p1 hr1 hr2 hw hmz hri
          gi_wp2
          refine hR.mono ?_
          rintro e w4 (⟨rfl, M', hJ4, hg4, hk4⟩ | ⟨rfl, hX4⟩)
          · have HK4 := hid (show J (k + 1) M' w4 ∧ ¬ M' B ∧ Var w4 B #[.slice (some bp) mm g.c, .bool g.cl] 38 ∧ (edgesL ls).drop (k + 1) = (edgs g.ps).drop (j + 1) ++ edgesL (ls.drop (i + 1)) from
              ⟨hJ4, fun h => (hg4 B h).elim HK.out.2.1 (fun h2 => by have := HK.out.2.2.1.lt; have := HKX.out.1; omega), hk4.2 B _ HBX.out.drew rfl HK.out.2.1, D3.out⟩)
            clear hJ4 hg4 hk4
            gi_wp2
            go_roundw
            case rel => exact ⟨j + 1, k + 1, M', by omega, by have := D1.out; omega, by go_num, HK4⟩
            case measure => simp [intOf]; omega
          · gi_wp2
            refine bodyPost_ret (results_none rfl _ _ _) rfl ?_
            exact ⟨⟨_, rfl⟩, .inr ⟨k, D1.out, hX4⟩⟩
        · have HK2 := hid (show J k M wx ∧ (edgesL ls).drop k = edgesL (ls.drop (i + 1)) from ⟨HK.out.1, HK.out.2.2.2.trans (by rw [List.drop_eq_nil_of_le (by rw [edgs_len, ← HM.out]; omega), List.nil_append])⟩)
          gi_wp2
          go_roundw
          case rel => exact ⟨i + 1, k, M, HLT.out, hk, by go_num, HK2⟩
          case measure => have := HLT.out; simp [intOf]; omega
    · obtain rfl : i = n := by omega
      have hkN : k = (edgesL ls).length := by
        have h1 := HK.out.2
        rw [show ls.drop i = [] from List.drop_eq_nil_of_le (by rw [HLS.out, List.length_map, ← HN.out]; exact Nat.le_refl _)] at h1
        have h3 := congrArg List.length h1
        rw [List.length_drop] at h3
        simp [edgesL] at h3 hk ⊢
        omega
      have HF := hid (hkN ▸ HK.out.1)
      gi_wp2
      go_end0
      exact ⟨⟨_, rfl⟩, .inl ⟨M, HF.out⟩⟩
end Go.Proofs.Ytijkoaggcmgjiaa
