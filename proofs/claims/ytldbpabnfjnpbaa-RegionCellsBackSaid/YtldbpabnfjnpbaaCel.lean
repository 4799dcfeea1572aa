/- The cells of a region, one at a time. -/
import Derived.Test.YtldbpabnfjnpbaaRng
import Derived.Test.YtldbpabnfjnpbaaRgn
namespace Go.Proofs.Ytldbpabnfjnpbaa
open Go Go.RowKit Go.Shelf
attribute [local go_sem] Oper.semAt_some
set_option linter.unusedVariables false
set_option linter.unusedSimpArgs false

/-- The cells of a run, from left to right. -/
def cellsOf (r : Rn) : List P2 := (List.range (r.b - r.a).toNat).map fun (i : Nat) => ⟨r.a + (i : Int), r.y⟩
def cellsL (ss : List Rn) : List P2 := ss.flatMap cellsOf
theorem cellsOf_len (r : Rn) : (cellsOf r).length = (r.b - r.a).toNat := by unfold cellsOf; simp
theorem cellsOf_at {r : Rn} {j : Nat} (h : j < (r.b - r.a).toNat) : (cellsOf r).drop j = ⟨r.a + (j : Int), r.y⟩ :: (cellsOf r).drop (j + 1) := by
  rw [List.drop_eq_getElem_cons (by rw [cellsOf_len]; exact h)]
  congr 1
  unfold cellsOf
  simp
theorem cellsL_at {ss : List Rn} {i : Nat} (h : i < ss.length) : cellsL (ss.drop i) = cellsOf ss[i] ++ cellsL (ss.drop (i + 1)) := by
  rw [List.drop_eq_getElem_cons h]
  unfold cellsL
  rw [List.flatMap_cons]
theorem drop_consP {l t : List P2} {k : Nat} {s : P2} (h : l.drop k = s :: t) : k < l.length ∧ l[k]? = some s ∧ l.drop (k + 1) = t := by
  have hk : k < l.length := by
    rcases Nat.lt_or_ge k l.length with h' | h'
    · exact h'
    · rw [List.drop_eq_nil_of_le h'] at h; cases h
  rw [List.drop_eq_getElem_cons hk] at h
  have h1 := (List.cons.inj h).1
  exact ⟨hk, by rw [List.getElem?_eq_getElem hk, h1], (List.cons.inj h).2⟩
/-- v is cell k. -/
def CellAt (ss : List Rn) (k : Nat) (v : Array Value) (A : World) : Prop := ∃ p, (cellsL ss)[k]? = some p ∧ v = #[ptv p]
/-- How many cells there are; none in a wrong region. -/
def cellsN (ss : List Rn) : Nat := if chk ss = 0 then (cellsL ss).length else 0

theorem cells_make (A : Option Addr) (n c : Nat) (w : World) :
    Calls Try.prog 16 #[.slice A n c] w fun e w' => e = .returned (.func (.func 50) #[] #[.pointer (some ⟨w.heap.size, 0, none⟩)]) ∧ w' = w.alloc (.cells #[.slice A n c] 22) := by
  go_enter Try.func16, Try.ntmps16
  go_wp2_with fail
  go_ret
  exact ⟨rfl, rfl⟩

set_option maxRecDepth 100000 in
set_option maxHeartbeats 2000000 in
theorem cells_iter (m : Nat) (hm : 1 ≤ m) (b : Nat) (A : Option Addr) (ss : List Rn) (n c : Nat) (I : Nat → (Nat → Prop) → World → Prop) (hn : n = ss.length) (hl : n ≤ maxLen)
    (hI : ∀ k M W, I k M W → W.cell? ⟨b, 0, none⟩ = some (.slice A n c) ∧ Runs W A ss) : SeqA Fence.wide m Try.prog 50 #[.pointer (some ⟨b, 0, none⟩)] (CellAt ss) (cellsN ss) I := by
  intro l J Jx M V hJ hJI hJM hY h0
  have HN := hid hn
  have HLn := hid hl
  unfold maxLen at hl
  have HI := hid hI
  have HJ := hid hJ
  have HJI := hid hJI
  have HJM := hid hJM
  have HY := hid hY
  have H0 := hid h0
  clear hI hJ hJI hJM hY h0 hn
  obtain ⟨q0, qr⟩ := HI.out _ _ _ (HJI.out _ _ _ H0.out)
  have HR0 := hid qr
  clear qr
  refine callsIn_of_wp Try.func50 rfl trivial ?_ rfl
  simp only [Try.ntmps50, List.size_toArray, List.length_cons, List.length_nil, Nat.reduceAdd, Nat.reduceSub, Array.replicate_succ, Array.replicate_zero, List.push_toArray, List.append_toArray, List.nil_append, List.cons_append]
  by_cases hc : chk ss = 0
  · have HC := hid hc
    have HCN := hid (show cellsN ss = (cellsL ss).length from if_pos hc)
    rw [HCN.out] at HY ⊢
    clear hc
    gi_wp2_with (refine ⟨trivial, ?_⟩; gi_at_call 15; refine (callsIn_wide.2 (check_any A ss n c _ HN.out HLn.out HR0.out)).mono ?_; rintro e w1 ⟨rfl, hb1⟩; rw [HC.out]; have H1 := hid (HJ.out _ _ _ _ H0.out hb1); clear hb1; obtain ⟨q1, -⟩ := HI.out _ _ _ (HJI.out _ _ _ H1.out))
    clear q0 q1 H0 HR0
    gi_loopw [11] (fun s11 wr => ∃ (i k : Nat) (M : Nat → Prop), i ≤ n ∧ k ≤ (cellsL ss).length ∧ s11 = .int .i64 i ∧ Hid (J k M wr ∧ (cellsL ss).drop k = cellsL (ss.drop i))) (fun s11 _ => n - (intOf s11).toNat)
    case atStart => exact ⟨0, 0, M, Nat.zero_le _, Nat.zero_le _, rfl, hid ⟨H1.out, rfl⟩⟩
    case round =>
      clear H1
      obtain ⟨i, k, M, hi, hk, rfl, HK⟩ := hrel
      by_cases hlt : i < n
      · have hlz : i < ss.length := by rw [← HN.out]; exact hlt
        obtain ⟨-, qr⟩ := HI.out _ _ _ (HJI.out _ _ _ HK.out.1)
        obtain ⟨a, rfl, hal, hsa⟩ := qr.at_ hlz
        have HD := hid (HK.out.2.trans (cellsL_at hlz))
        have hrin := (show ((-8192 ≤ ss[i].y ∧ ss[i].y ≤ 8191) ∧ (-8192 ≤ ss[i].a ∧ ss[i].a ≤ 8192) ∧ (-8192 ≤ ss[i].b ∧ ss[i].b ≤ 8192)) ∧ ss[i].a < ss[i].b from (chk_all HC.out).1 _ (List.getElem_mem hlz))
        generalize ss[i] = r at hsa HD hrin
        obtain ⟨c0, c1, c2⟩ := hsa
        obtain ⟨⟨⟨ry1, ry2⟩, ⟨ra1, ra2⟩, rb1, rb2⟩, rab⟩ := hrin
        clear qr
        gi_wp2
        have HV2 := hid (Var.new wr (cel r) 37 _ rfl)
        have HJ2 := hid (HJ.out _ _ _ _ HK.out.1 ((Below.refl _ wr).alloc (Nat.le_refl _) (.cells (cel r) 37)))
        have HM2 : Hid (¬ M wr.heap.size) := hid (fun h => Nat.lt_irrefl _ (HJM.out _ _ _ HK.out.1 _ h))
        have HK2 := hid HK.out.2
        have HLT := hid hlt
        clear c0 c1 c2 HK
        generalize hB : wr.heap.size = B at HV2 HM2 ⊢
        obtain ⟨W2, hW2⟩ : ∃ W2, W2 = wr.alloc (.cells (cel r) 37) := ⟨_, rfl⟩
        rw [← hW2] at HV2 HJ2
        rw [← hW2]
        clear hW2 hB
        gi_loopw [5] (fun s5 wx => ∃ (j k : Nat) (M : Nat → Prop), j ≤ (r.b - r.a).toNat ∧ k ≤ (cellsL ss).length ∧ s5 = .int .i64 (r.a + (j : Int)) ∧ Hid (J k M wx ∧ ¬ M B ∧ Var wx B (cel r) 37 ∧ (cellsL ss).drop k = (cellsOf r).drop j ++ cellsL (ss.drop (i + 1)))) (fun s5 _ => (r.b - intOf s5).toNat)
        case atStart => exact ⟨0, k, M, Nat.zero_le _, hk, by go_num, hid ⟨HJ2.out, HM2.out, HV2.out, by rw [List.drop_zero]; exact HD.out⟩⟩
        case round =>
          clear HV2 HJ2 HM2 HK2
          obtain ⟨wx, rfl⟩ : ∃ wx, wx = wr := ⟨_, rfl⟩
          obtain ⟨j, k, M, hj, hk, rfl, HK⟩ := hrel
          obtain ⟨c0, c1, c2, -⟩ := HK.out.2.2.1.read3
          by_cases hlj : j < (r.b - r.a).toNat
          · have hjb : r.a + (j : Int) < r.b := by omega
            obtain ⟨d1, d2, d3⟩ := drop_consP (HK.out.2.2.2.trans (by rw [cellsOf_at hlj, List.cons_append]))
            have D1 := hid d1
            have D3 := hid d3
            obtain ⟨fn, tmps, assign, body, hy, hR⟩ := HY.out k M #[.agg #[.int .i64 (r.a + (j : Int)), .int .i64 r.y]] _ HK.out.1 d1 ⟨_, d2, rfl⟩
            clear d1 d2 d3
            gi_wp2
            refine hR.mono ?_
            rintro e w4 (⟨rfl, M', hJ4, hg4, hk4⟩ | ⟨rfl, hX4⟩)
            · have HK4 := hid (show J (k + 1) M' w4 ∧ ¬ M' B ∧ Var w4 B (cel r) 37 ∧ (cellsL ss).drop (k + 1) = (cellsOf r).drop (j + 1) ++ cellsL (ss.drop (i + 1)) from
                ⟨hJ4, fun h => (hg4 B h).elim HK.out.2.1 (fun h2 => by have := HK.out.2.2.1.lt; omega), hk4.2 B _ HK.out.2.2.1 rfl HK.out.2.1, D3.out⟩)
              clear hJ4 hg4 hk4 c0 c1 c2
              gi_wp2
              go_roundw
              case rel => exact ⟨j + 1, k + 1, M', by omega, by have := D1.out; omega, by go_num, HK4⟩
              case measure => simp [intOf]; omega
            · gi_wp2
              refine bodyPost_ret (results_none rfl _ _ _) rfl ?_
              exact ⟨⟨_, rfl⟩, .inr ⟨k, D1.out, hX4⟩⟩
          · have hjb : ¬ r.a + (j : Int) < r.b := by omega
            have HK2 := hid (show J k M wx ∧ (cellsL ss).drop k = cellsL (ss.drop (i + 1)) from ⟨HK.out.1, HK.out.2.2.2.trans (by rw [List.drop_eq_nil_of_le (by rw [cellsOf_len]; omega), List.nil_append])⟩)
            gi_wp2
            go_roundw
            case rel => exact ⟨i + 1, k, M, HLT.out, hk, by go_num, HK2⟩
            case measure => have := HLT.out; simp [intOf]; omega
      · obtain rfl : i = n := by omega
        have hkN : k = (cellsL ss).length := by
          have h1 := HK.out.2
          rw [HN.out, List.drop_length] at h1
          have h3 := congrArg List.length h1
          rw [List.length_drop] at h3
          simp [cellsL] at h3 hk ⊢
          omega
        have HF := hid (hkN ▸ HK.out.1)
        gi_wp2
        go_end0
        exact ⟨⟨_, rfl⟩, .inl ⟨M, HF.out⟩⟩
  · have HCN := hid (show cellsN ss = 0 from if_neg hc)
    have hc' : (chk ss != 0) = true := by simpa using hc
    rw [HCN.out]
    gi_wp2_with (refine ⟨trivial, ?_⟩; gi_at_call 15; refine (callsIn_wide.2 (check_any A ss n c _ HN.out HLn.out HR0.out)).mono ?_; rintro e w1 ⟨rfl, hb1⟩; have H1 := hid (HJ.out _ _ _ _ H0.out hb1); clear hb1)
    refine bodyPost_ret (results_none rfl _ _ _) rfl ?_
    exact ⟨⟨_, rfl⟩, .inl ⟨M, H1.out⟩⟩
end Go.Proofs.Ytldbpabnfjnpbaa
