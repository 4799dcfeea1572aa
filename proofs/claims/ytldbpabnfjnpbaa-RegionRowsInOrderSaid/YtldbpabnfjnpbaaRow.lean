/- The rows of a region, one at a time. -/
import Derived.Test.YtldbpabnfjnpbaaRng
import Derived.Test.YtldbpabnfjnpbaaRgn
import Derived.Test.YtldbpabnfjnpbaaRcl
import Derived.Test.YtldbpabnfjnpbaaStepB
import Derived.Sort.CutIn
namespace Go.Proofs.Ytldbpabnfjnpbaa
open Go Go.RowKit Go.Shelf
attribute [local go_sem] Oper.semAt_some
set_option linter.unusedVariables false
set_option linter.unusedSimpArgs false

/-- The rows of a region: its runs of equal y. -/
def rwsF : Nat → List Rn → List (List Rn)
  | 0, _ => []
  | _ + 1, [] => []
  | k + 1, r :: xs => rowOf r.y (r :: xs) :: rwsF k ((r :: xs).drop (rowOf r.y (r :: xs)).length)
theorem rowOf_pos (r : Rn) (xs : List Rn) : 0 < (rowOf r.y (r :: xs)).length := by
  unfold rowOf
  rw [List.takeWhile_cons_of_pos (by simp)]
  simp
theorem rowOf_le (y : Int) (xs : List Rn) : (rowOf y xs).length ≤ xs.length := by
  unfold rowOf
  exact (List.takeWhile_sublist _).length_le
theorem rowOf_take (y : Int) (xs : List Rn) : rowOf y xs = xs.take (rowOf y xs).length := by
  unfold rowOf
  exact List.prefix_iff_eq_take.1 (List.takeWhile_prefix _)
theorem rowOf_y {y : Int} {xs : List Rn} : ∀ r ∈ rowOf y xs, r.y = y := fun r h => by
  unfold rowOf at h
  have := List.all_takeWhile (p := fun r : Rn => decide (r.y = y)) (l := xs)
  rw [List.all_eq_true] at this
  simpa using this r h
theorem rwsF_more : ∀ (k m : Nat) (xs : List Rn), xs.length ≤ k → xs.length ≤ m → rwsF k xs = rwsF m xs
  | 0, 0, _, _, _ => rfl
  | 0, m + 1, [], _, _ => rfl
  | k + 1, 0, [], _, _ => rfl
  | k + 1, m + 1, [], _, _ => rfl
  | 0, _ + 1, r :: xs, h, _ => by simp at h
  | _ + 1, 0, r :: xs, _, h => by simp at h
  | k + 1, m + 1, r :: xs, h1, h2 => by
    unfold rwsF
    have h3 := rowOf_pos r xs
    rw [rwsF_more k m _ (by rw [List.length_drop]; simp at h1 ⊢; omega) (by rw [List.length_drop]; simp at h2 ⊢; omega)]
def rws (ss : List Rn) : List (List Rn) := rwsF ss.length ss
theorem rws_nil : rws [] = [] := rfl
theorem rws_at {ss : List Rn} {i : Nat} {r : Rn} (h : ss[i]? = some r) : rws (ss.drop i) = rowOf r.y (ss.drop i) :: rws (ss.drop (i + (rowOf r.y (ss.drop i)).length)) := by
  obtain ⟨hi, e⟩ := List.getElem?_eq_some_iff.1 h
  have hd : ss.drop i = r :: ss.drop (i + 1) := by rw [List.drop_eq_getElem_cons hi, e]
  have h3 := rowOf_pos r (ss.drop (i + 1))
  rw [← hd] at h3
  have h4 : (rowOf r.y (ss.drop i)).length ≤ (ss.drop i).length := rowOf_le _ _
  rw [← List.drop_drop]
  generalize ss.drop i = xs at hd h3 h4 ⊢
  subst hd
  unfold rws
  rw [show (r :: ss.drop (i + 1)).length = (ss.drop (i + 1)).length + 1 from rfl]
  rw [rwsF]
  rw [rwsF_more _ ((r :: ss.drop (i + 1)).drop (rowOf r.y (r :: ss.drop (i + 1))).length).length _ (by rw [List.length_drop]; simp at h3 ⊢; omega) (Nat.le_refl _)]
theorem drop_consL {l t : List (List Rn)} {k : Nat} {s : List Rn} (h : l.drop k = s :: t) : k < l.length ∧ l[k]? = some s ∧ l.drop (k + 1) = t := by
  have hk : k < l.length := by
    rcases Nat.lt_or_ge k l.length with h' | h'
    · exact h'
    · rw [List.drop_eq_nil_of_le h'] at h; cases h
  rw [List.drop_eq_getElem_cons hk] at h
  have h1 := (List.cons.inj h).1
  exact ⟨hk, by rw [List.getElem?_eq_getElem hk, h1], (List.cons.inj h).2⟩
/-- v is row k: its y, and its runs in a block from D on. -/
def RowAt (D : Nat) (ss : List Rn) (k : Nat) (v : Array Value) (A : World) : Prop :=
  ∃ g y gb c, (rws ss)[k]? = some g ∧ v = #[.int .i64 y, .slice (some ⟨gb, 0, none⟩) g.length c] ∧ g ≠ [] ∧ (∀ r ∈ g, r.y = y) ∧ D ≤ gb ∧ gb < A.heap.size ∧ Runs A (some ⟨gb, 0, none⟩) g
/-- How many rows there are; none in a wrong region. -/
def rowsN (ss : List Rn) : Nat := if chk ss = 0 then (rws ss).length else 0
theorem OwnR.rowAt {W : World} {B D k : Nat} {v : Value} {g ss : List Rn} {y : Int} (h : OwnR W B v g) (hD : D ≤ B) (hg : g ≠ []) (hk : (rws ss)[k]? = some g) (hy : ∀ r ∈ g, r.y = y) : RowAt D ss k #[.int .i64 y, v] W := by
  obtain ⟨gb, c, rfl, h1, h2, -⟩ := h.one hg
  obtain ⟨A, c', e, hr⟩ := h.is
  cases e
  exact ⟨g, y, gb, c, hk, rfl, hg, hy, Nat.le_trans hD h1, h2, hr⟩

theorem rows_make (A : Option Addr) (n c : Nat) (w : World) :
    Calls Try.prog 28 #[.slice A n c] w fun e w' => e = .returned (.func (.func 58) #[] #[.pointer (some ⟨w.heap.size, 0, none⟩)]) ∧ w' = w.alloc (.cells #[.slice A n c] 22) := by
  go_enter Try.func28, Try.ntmps28
  go_wp2_with fail
  go_ret
  exact ⟨rfl, rfl⟩
theorem enters_rowEnd : Enters Try.prog 59 := enters_of Try.func59 (by kernel_rfl) rfl

set_option maxRecDepth 100000 in
set_option maxHeartbeats 2000000 in
theorem rows_iter (m : Nat) (hm : 1 ≤ m) (bx D : Nat) (A : Option Addr) (ss : List Rn) (n c : Nat) (I : Nat → (Nat → Prop) → World → Prop) (hn : n = ss.length) (hnc : n ≤ c) (hcl : c ≤ maxLen)
    (hI : ∀ k M W, I k M W → W.cell? ⟨bx, 0, none⟩ = some (.slice A n c) ∧ bx < W.heap.size ∧ Runs W A ss ∧ D ≤ W.heap.size) : SeqA Fence.wide m Try.prog 58 #[.pointer (some ⟨bx, 0, none⟩)] (RowAt D ss) (rowsN ss) I := by
  intro l J Jx M V hJ hJI hJM hY h0
  have HN := hid hn
  have hl : n ≤ maxLen := Nat.le_trans hnc hcl
  have HLn := hid hl
  have HCL := hid hcl
  unfold maxLen at hl
  have hcl2 := hcl
  unfold maxLen at hcl2
  have HI := hid hI
  have HJ := hid hJ
  have HJI := hid hJI
  have HJM := hid hJM
  have HY := hid hY
  have H0 := hid h0
  clear hI hJ hJI hJM hY h0 hn
  obtain ⟨q0, -, qr, -⟩ := HI.out _ _ _ (HJI.out _ _ _ H0.out)
  have HR0 := hid qr
  clear qr
  refine callsIn_of_wp Try.func58 rfl trivial ?_ rfl
  simp only [Try.ntmps58, List.size_toArray, List.length_cons, List.length_nil, Nat.reduceAdd, Nat.reduceSub, Array.replicate_succ, Array.replicate_zero, List.push_toArray, List.append_toArray, List.nil_append, List.cons_append]
  by_cases hc : chk ss = 0
  · have HC := hid hc
    have HCN := hid (show rowsN ss = (rws ss).length from if_pos hc)
    rw [HCN.out] at HY ⊢
    have hnb : n ≤ 1000000000 := by rw [HN.out]; exact chk_len hc
    clear hc
    gi_wp2_with (refine ⟨trivial, ?_⟩; gi_at_call 15; refine (callsIn_wide.2 (check_any A ss n c _ HN.out HLn.out HR0.out)).mono ?_; rintro e w1 ⟨rfl, hb1⟩; rw [HC.out]; have H1 := hid (HJ.out _ _ _ _ H0.out hb1); clear hb1; obtain ⟨q1, -⟩ := HI.out _ _ _ (HJI.out _ _ _ H1.out))
    clear q0 q1 H0 HR0
    gi_loopw [3] (fun s3 wr => ∃ (i k : Nat) (M : Nat → Prop), i ≤ n ∧ k ≤ (rws ss).length ∧ s3 = .int .i64 i ∧ Hid (J k M wr ∧ (rws ss).drop k = rws (ss.drop i))) (fun s3 _ => n - (intOf s3).toNat)
    case atStart => exact ⟨0, 0, M, Nat.zero_le _, Nat.zero_le _, rfl, hid ⟨H1.out, rfl⟩⟩
    case round =>
      clear H1
      obtain ⟨i, k, M, hi, hk, rfl, HK⟩ := hrel
      obtain ⟨q0, q1, qr, -⟩ := HI.out _ _ _ (HJI.out _ _ _ HK.out.1)
      by_cases hlt : i < n
      · have hlz : i < ss.length := by rw [← HN.out]; exact hlt
        obtain ⟨a, rfl, hal, hsa⟩ := qr.at_ hlz
        obtain ⟨r, hr⟩ : ∃ r, r = ss[i] := ⟨_, rfl⟩
        rw [← hr] at hsa
        have hrq : ss[i]? = some r := by rw [hr]; exact List.getElem?_eq_getElem hlz
        have HRQ := hid hrq
        have HD := hid (HK.out.2.trans (rws_at hrq))
        obtain ⟨g, hg⟩ : ∃ g, g = rowOf r.y (ss.drop i) := ⟨_, rfl⟩
        have HG := hid hg
        have hgl : g.length ≤ n - i := by rw [hg]; have := rowOf_le r.y (ss.drop i); rw [List.length_drop, ← HN.out] at this; exact this
        have hg0 : 0 < g.length := by
          rw [hg, List.drop_eq_getElem_cons hlz, ← hr]; exact rowOf_pos _ _
        obtain ⟨E, hE⟩ : ∃ E, E = i + g.length := ⟨_, rfl⟩
        have HEE := hid hE
        have HC0 := hid q0
        have HBL := hid q1
        have HRA := hid hsa
        have HAL := hid hal
        have HRR := hid qr
        have HRE := hid (fun (w : World) (h : Below wr.heap.size wr w) => by
          have := rowEnd_any a ss n c i r w HN.out hnc hcl (qr.next h) hlt hrq
          rw [← hg, ← hE] at this
          exact this)
        have hEn : E ≤ n := by omega
        have hEi : i < E := by omega
        have i1 : (0 : Int) ≤ (i : Int) := Int.natCast_nonneg _
        have i2 : (i : Int) < (n : Int) := by omega
        have i3 : (i : Int) ≤ (E : Int) := by omega
        have i4 : (E : Int) ≤ (c : Int) := by omega
        clear hrq hg hE hr hsa hal q1 qr
        gi_upto_region 3 with fail
        refine wpIn_wide.2 ?_
        rename_i Kn hKn
        refine F2.wp_region_fan 9 [] (Ov wr) (by kernel_rfl) (by kernel_rfl) (by kernel_rfl) (Ov.start wr) ?_
        simp only [List.take_succ_cons, List.take_zero, List.drop_succ_cons, List.drop_zero]
        refine F2.WalksE.sound _ _ _ _ ?_ ((((((((Is.start _ (n := 31) rfl).pin 0 (v := .func (.yield l) #[] #[]) rfl).pin 1 (v := .pointer (some (⟨bx, 0, none⟩))) rfl).pin 2 (v := undef) rfl).pin 3 (v := .int .i64 ↑i) rfl).pin 6 (v := .slice (some a) n c) rfl).pin 7 (v := .int .i64 0) rfl).pin 8 (v := .bool false) rfl)
        generalize (fun i => Array.getD _ i undef) = g0
        refine F2.walks_with fun KQ hKQ => ?_
        (refine F2.walks_one fun K hK => ?_); refine F2.st_read (v := .slice (some a) n c) rfl rfl (fun b w h => run_loadSl rfl ((h.cell (p := ⟨bx, 0, none⟩) HBL.out).trans HC0.out)) ?_; refine hK _ ?_; clear hK K
        (refine F2.walks_one fun K hK => ?_); refine F2.st_pure (v := .int .i64 ↑i) rfl rfl (fun _ => rfl) ?_; refine hK _ ?_; clear hK K
        (refine F2.walks_one fun K hK => ?_); refine F2.st_pure (v := .pointer (some (a.add (i * 3)))) rfl rfl (fun _ => (run_index rfl rfl (by omega) (by omega)).trans (by rw [Int.toNat_natCast])) ?_; refine hK _ ?_; clear hK K
        (refine F2.walks_one fun K hK => ?_); refine F2.st_pure (v := .pointer (some (a.add (i * 3)))) rfl rfl (fun _ => run_fld0 (a := a.add (i * 3)) rfl) ?_; refine hK _ ?_; clear hK K
        (refine F2.walks_one fun K hK => ?_); refine F2.st_read (v := .int .i64 r.y) rfl rfl (fun b w h => run_loadInt rfl ((HRA.out.below h (by rw [add_block]; exact HAL.out)).c0)) ?_; refine hK _ ?_; clear hK K
        (refine F2.walks_one fun K hK => ?_); refine F2.st_read (v := .slice (some a) n c) rfl rfl (fun b w h => run_loadSl rfl ((h.cell (p := ⟨bx, 0, none⟩) HBL.out).trans HC0.out)) ?_; refine hK _ ?_; clear hK K
        (refine F2.walks_one fun K hK => ?_); refine F2.st_pure (v := .int .i64 ↑i) rfl rfl (fun _ => rfl) ?_; refine hK _ ?_; clear hK K
        (refine F2.walks_one fun K hK => ?_); refine F2.st_call (r := .int .i64 ↑E) rfl rfl (fun _ => run_call2 rfl enters_rowEnd) (fun b w h => (HRE.out w h).mono fun e w1 k => ⟨k.1, h.next k.2⟩) ?_; refine hK _ ?_; clear hK K
        (refine F2.walks_one fun K hK => ?_); refine F2.st_pure (v := .int .i64 r.y) rfl rfl (fun _ => rfl) ?_; refine hK _ ?_; clear hK K
        refine F2.walks_end fun a9 ha9 => hKQ _ fun w1 hC => ?_
        refine sq_val (v := .int .i64 ↑E) ha9 rfl (rfl) fun a10 ha10 => ?_
        refine wpList_nil ?_
        refine hKn _ _ ?_
        obtain ⟨g9, hg9, k0, k1, k2, k3, k4, k5, k6, k7, k8⟩ : ∃ g9, Is a10 31 g9 ∧ g9 0 = .func (.yield l) #[] #[] ∧ g9 1 = .pointer (some (⟨bx, 0, none⟩)) ∧ g9 2 = undef ∧ g9 3 = .int .i64 ↑i ∧ g9 4 = .int .i64 r.y ∧ g9 5 = .int .i64 ↑E ∧ g9 6 = .slice (some a) n c ∧ g9 7 = .int .i64 0 ∧ g9 8 = .bool false := ⟨_, ha10, rfl, rfl, rfl, rfl, rfl, rfl, rfl, rfl, rfl⟩
        have hw := hg9.whole
        rw [show ((List.range 31).map g9).toArray = #[g9 0, g9 1, g9 2, g9 3, g9 4, g9 5, g9 6, g9 7, g9 8, g9 9, g9 10, g9 11, g9 12, g9 13, g9 14, g9 15, g9 16, g9 17, g9 18, g9 19, g9 20, g9 21, g9 22, g9 23, g9 24, g9 25, g9 26, g9 27, g9 28, g9 29, g9 30] from rfl] at hw
        rw [k0, k1, k2, k3, k4, k5, k6, k7, k8] at hw
        subst hw
        clear hg9 k0 k1 k2 k3 k4 k5 k6 k7 k8
        have HBW := hid (show Below wr.heap.size wr w1 from hC)
        clear ha9 ha10 hC hKQ KQ hKn Kn
        have HC1 := hid (HJ.out _ _ _ _ HK.out.1 HBW.out)
        obtain ⟨q0', -, qr', qD⟩ := HI.out _ _ _ (HJI.out _ _ _ HC1.out)
        have HRG := hid (show Runs w1 (some (a.add (i * 3))) g by
          rw [HG.out, rowOf_take]; exact ((HRR.out.next HBW.out).dropR i).take _)
        have HQD := hid qD
        have HK2 := hid HK.out.2
        have hEg : E - i = g.length := by have := HEE.out; omega
        have hg9 : g.length ≤ 5000000000 := by omega
        have HEG := hid hEg
        have hgp : g ≠ [] := fun e => by rw [e] at hg0; simp at hg0
        have HGP := hid hgp
        clear q0 qr' qD HC0 HRA HAL HRR HRE HBL HK hgl hEg hg9 hgp
        have HCLN := hid (cloneR_any (some (a.add (i * 3))) g (E - i) (c - i) w1 HEG.out (by omega) HRG.out)
        gi_wp2
        refine ⟨trivial, ?_⟩
        refine (callsIn_wide.2 HCLN.out).mono ?_
        rintro e w2 ⟨v, rfl, ho, hb⟩
        have HJ2 := hid (HJ.out _ _ _ _ HC1.out hb)
        have hd := HD.out
        rw [← HG.out] at hd
        rw [← HEE.out] at hd
        obtain ⟨d1, d2, d3⟩ := drop_consL hd
        have D1 := hid d1
        have D3 := hid d3
        obtain ⟨fn, tmps, assign, body, hy, hR⟩ := HY.out k M #[.int .i64 r.y, v] w2 HJ2.out d1 (ho.rowAt HQD.out HGP.out d2 (by rw [HG.out]; exact rowOf_y))
        clear d1 d2 d3 hd ho hb HCLN HC1 HRG HD
        gi_wp2
        refine hR.mono ?_
        rintro e w4 (⟨rfl, M', hJ4, hg4, hk4⟩ | ⟨rfl, hX4⟩)
        · have HK4 := hid (show J (k + 1) M' w4 ∧ (rws ss).drop (k + 1) = rws (ss.drop E) from ⟨hJ4, D3.out⟩)
          clear hJ4 hg4 hk4
          gi_wp2
          go_roundw
          case rel => exact ⟨E, k + 1, M', hEn, by have := D1.out; omega, rfl, HK4⟩
          case measure => simp [intOf]; omega
        · gi_wp2
          refine bodyPost_ret (results_none rfl _ _ _) rfl ?_
          exact ⟨⟨_, rfl⟩, .inr ⟨k, D1.out, hX4⟩⟩
      · obtain rfl : i = n := by omega
        have hkN : k = (rws ss).length := by
          have h1 := HK.out.2
          rw [HN.out, List.drop_length] at h1
          have h3 := congrArg List.length h1
          rw [List.length_drop] at h3
          simp [rws_nil] at h3 hk ⊢
          omega
        have HF := hid (hkN ▸ HK.out.1)
        gi_wp2
        go_end0
        exact ⟨⟨_, rfl⟩, .inl ⟨M, HF.out⟩⟩
  · have HCN := hid (show rowsN ss = 0 from if_neg hc)
    have hc' : (chk ss != 0) = true := by simpa using hc
    rw [HCN.out]
    gi_wp2_with (refine ⟨trivial, ?_⟩; gi_at_call 15; refine (callsIn_wide.2 (check_any A ss n c _ HN.out HLn.out HR0.out)).mono ?_; rintro e w1 ⟨rfl, hb1⟩; have H1 := hid (HJ.out _ _ _ _ H0.out hb1); clear hb1)
    refine bodyPost_ret (results_none rfl _ _ _) rfl ?_
    exact ⟨⟨_, rfl⟩, .inl ⟨M, H1.out⟩⟩
end Go.Proofs.Ytldbpabnfjnpbaa
