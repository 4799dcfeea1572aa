/- dash's spans, and its iterator (written by r10_spi.py). -/
import Derived.Test.YtjflgblplmgjlaaSpn
namespace Go.Proofs.Ytjflgblplmgjlaa
open Go Go.RowKit Go.Shelf
attribute [local go_sem] Oper.semAt_some
set_option linter.unusedVariables false
set_option linter.unusedSimpArgs false

theorem below_cell0 {W W' : World} {b : Nat} {v : Value} (h : Below W.heap.size W W') (hc : W.cell? ⟨b, 0, none⟩ = some v) : W'.cell? ⟨b, 0, none⟩ = some v := (h.cell (cell_lt hc)).trans hc
section
variable {ρ : Operand → Value} {dst : Option Tmp} {ty : TypeId} {pos : String} {af : Array Edge} {x y : Operand} {w : World} {gd : Option (Nat × Bool)}
theorem run_loadIs {a : Addr} {A : Option Addr} {n c : Nat} (hx : ρ x = .pointer (some a)) (hV : w.cell? a = some (.slice A n c)) :
    (execOp ρ { dst := dst, op := .load 23 x, type := ty, pos := pos, after := af, guard := gd }).run Try.prog w = .ok (.value (.slice A n c)) w := by
  go_simp
theorem run_lenI {A : Option Addr} {n c : Nat} (hx : ρ x = .slice A n c) :
    (execOp ρ { dst := dst, op := .call { callee := .builtin .len, args := #[x], argTypes := #[23] }, type := ty, pos := pos, after := af, guard := gd }).run Try.prog w = .ok (.value (.int .i64 (n : Int))) w := by
  go_simp
theorem run_remI {i j : Int} (hx : ρ x = .int .i64 i) (hy : ρ y = .int .i64 j) (hi : 0 ≤ i) (hj : 0 < j) :
    (execOp ρ { dst := dst, op := .binOp .rem 3 x y 3, type := ty, pos := pos, after := af, guard := gd }).run Try.prog w = .ok (.value (.int .i64 (i % j))) w := by
  have hz : ¬ j = 0 := by omega
  have e : Int.tmod i j = i % j := Int.tmod_eq_emod_of_nonneg hi
  go_simp
theorem run_remN0 {i j : Nat} (hx : ρ x = .int .i64 (i : Int)) (hy : ρ y = .int .i64 (j : Int)) (hj : 0 < j) :
    (execOp ρ { dst := dst, op := .binOp .rem 3 x y 3, type := ty, pos := pos, after := af, guard := gd }).run Try.prog w = .ok (.value (.int .i64 ((i % j : Nat) : Int))) w := by
  have h := run_remI (dst := dst) (ty := ty) (pos := pos) (af := af) (w := w) (gd := gd) hx hy (by omega) (by omega : (0 : Int) < (j : Int))
  rw [Int.natCast_emod]
  exact h
theorem run_idxI {a : Addr} {j : Int} {n c : Nat} (hx : ρ x = .slice (some a) n c) (hy : ρ y = .int .i64 j) (h0 : 0 ≤ j) (hj : j < (n : Int)) :
    (execOp ρ { dst := dst, op := .indexAddr 23 x y, type := ty, pos := pos, after := af, guard := gd }).run Try.prog w = .ok (.value (.pointer (some (a.add j.toNat)))) w := by
  go_simp
end
theorem enters_period : Enters Try.prog 37 := enters_of Try.func37 (by kernel_rfl) rfl

theorem spans_make (A : Option Addr) (n c : Nat) (phase len : Int) (w : World) :
    Calls Try.prog 25 #[.slice A n c, .int .i64 phase, .int .i64 len] w fun e w' => e = .returned (.func (.func 36) #[] #[.pointer (some ⟨w.heap.size + 1, 0, none⟩), .pointer (some ⟨w.heap.size, 0, none⟩), .pointer (some ⟨w.heap.size + 2, 0, none⟩)]) ∧
      w' = ((w.alloc (.cells #[.slice A n c] 23)).alloc (.cells #[.int .i64 phase] 3)).alloc (.cells #[.int .i64 len] 3) := by
  go_enter Try.func25, Try.ntmps25
  go_wp2_with fail
  go_ret
  exact ⟨rfl, rfl⟩

/-- v is span k. -/
def SpAt (sp : List (Int × Int)) (k : Nat) (v : Array Value) (A : World) : Prop := ∃ p, sp[k]? = some p ∧ v = #[.int .i64 p.1, .int .i64 p.2]
theorem spansTo_pre {pat : List Int} {b0 len : Int} {i k : Nat} (h : i ≤ k) : ∃ t, spansTo pat b0 len k = spansTo pat b0 len i ++ t := by
  induction k with
  | zero => obtain rfl : i = 0 := by omega
            exact ⟨[], (List.append_nil _).symm⟩
  | succ k ih =>
    by_cases e : i = k + 1
    · subst e; exact ⟨[], (List.append_nil _).symm⟩
    · obtain ⟨t, ht⟩ := ih (by omega)
      exact ⟨t ++ (spn pat b0 len k).toList, by rw [spansTo_succ, ht, List.append_assoc]⟩
/-- The span that element i of the pattern yields, by its number. -/
theorem spans_get {pat : List Int} (h : okPat pat) (hn : pat ≠ []) {b0 len : Int} {i : Nat} {p : Int × Int} (hi : bgn pat b0 i < len) (hp : spn pat b0 len i = some p) :
    (spans pat b0 len)[(spansTo pat b0 len i).length]? = some p ∧ (spansTo pat b0 len (i + 1)).length = (spansTo pat b0 len i).length + 1 ∧ (spansTo pat b0 len i).length < (spans pat b0 len).length := by
  have h1 := bgn_ge h hn b0 (Nat.zero_le i)
  have e : bgn pat b0 0 = b0 := rfl
  rw [e] at h1
  obtain ⟨t, ht⟩ := spansTo_pre (pat := pat) (b0 := b0) (len := len) (show i + 1 ≤ (len - b0).toNat by omega)
  have h2 : spansTo pat b0 len (i + 1) = spansTo pat b0 len i ++ [p] := by rw [spansTo_succ, hp]; rfl
  have h3 : spans pat b0 len = spansTo pat b0 len i ++ (p :: t) := by unfold spans; rw [ht, h2, List.append_assoc]; rfl
  refine ⟨by rw [h3, List.getElem?_append_right (Nat.le_refl _), Nat.sub_self]; rfl, by rw [h2]; simp, by rw [h3]; simp⟩
theorem spansTo_none {pat : List Int} {b0 len : Int} {i : Nat} (h : spn pat b0 len i = none) : spansTo pat b0 len (i + 1) = spansTo pat b0 len i := by rw [spansTo_succ, h]; simp
theorem spansTo_le {pat : List Int} (h : okPat pat) (hn : pat ≠ []) {b0 len : Int} {i : Nat} (hi : bgn pat b0 i < len) : (spansTo pat b0 len i).length ≤ (spans pat b0 len).length := by
  have h1 := bgn_ge h hn b0 (Nat.zero_le i)
  have e : bgn pat b0 0 = b0 := rfl
  rw [e] at h1
  obtain ⟨t, ht⟩ := spansTo_pre (pat := pat) (b0 := b0) (len := len) (show i ≤ (len - b0).toNat by omega)
  unfold spans
  rw [ht]; simp

set_option maxRecDepth 100000 in
set_option maxHeartbeats 8000000 in
theorem spans_iter (m : Nat) (hm : 1 ≤ m) (bp bq bl : Nat) (A : Option Addr) (pat : List Int) (n c : Nat) (phase len b0 : Int) (hb0 : b0 = -(phase % perd pat)) (I : Nat → (Nat → Prop) → World → Prop) (hn : n = pat.length) (hk : pchk pat phase = 0) (hlen : 0 ≤ len ∧ len ≤ 1000000000000)
    (hI : ∀ k M W, I k M W → W.cell? ⟨bp, 0, none⟩ = some (.int .i64 phase) ∧ W.cell? ⟨bq, 0, none⟩ = some (.slice A n c) ∧ W.cell? ⟨bl, 0, none⟩ = some (.int .i64 len) ∧ IntsA W A pat) :
    SeqA Fence.wide m Try.prog 36 #[.pointer (some ⟨bp, 0, none⟩), .pointer (some ⟨bq, 0, none⟩), .pointer (some ⟨bl, 0, none⟩)] (SpAt (spans pat b0 len)) (spans pat b0 len).length I := by
  intro l J Jx M V hJ hJI hJM hY h0
  obtain ⟨k1, k2, k3, k4, k5⟩ := pchk_ok hk
  have HN := hid hn
  have HI := hid hI
  have HJ := hid hJ
  have HJI := hid hJI
  have HJM := hid hJM
  have HY := hid hY
  have HOK := hid k3
  have HNE := hid (show pat ≠ [] from fun e => by rw [e] at k1; simp at k1)
  have HL16 := hid (show n ≤ 16 by rw [hn]; exact k2)
  have HN1 := hid (show 1 ≤ n by rw [hn]; exact k1)
  have H0 := hid (show 0 ≤ phase ∧ phase ≤ 1048576 from ⟨k4, k5⟩)
  have hpb := perd_bd k3 k1 k2
  have e1 := Int.emod_nonneg phase (show perd pat ≠ 0 by omega)
  have e2 := Int.emod_lt_of_pos phase (show 0 < perd pat by omega)
  have HPB := hid (show 1 ≤ perd pat ∧ 0 ≤ phase % perd pat ∧ phase % perd pat ≤ 2097120 by omega)
  clear hI hJ hJI hJM hY hn hk k1 k2 k3 k4 k5 hpb e1 e2
  have HC := hid (HI.out _ _ _ (HJI.out _ _ _ h0))
  have HJ0 := hid h0
  clear h0
  refine callsIn_of_wp Try.func36 rfl trivial ?_ rfl
  simp only [Try.ntmps36, List.size_toArray, List.length_cons, List.length_nil, Nat.reduceAdd, Nat.reduceSub, Array.replicate_succ, Array.replicate_zero, List.push_toArray, List.append_toArray, List.nil_append, List.cons_append]
  gi_wp2
  refine grow_round (by kernel_rfl) (by kernel_rfl) (by kernel_rfl) ?_
  refine gq_val (v := .int .i64 phase) (fun _ => trivial) rfl (fun w' hw' => run_loadInt rfl (below_cell0 hw' HC.out.1)) ?_
  simp only [Act.put, List.setIfInBounds_toArray, List.set_cons_succ, List.set_cons_zero]
  refine gq_val (v := .slice A n c) (fun _ => trivial) rfl (fun w' hw' => run_loadIs rfl (below_cell0 hw' HC.out.2.1)) ?_
  simp only [Act.put, List.setIfInBounds_toArray, List.set_cons_succ, List.set_cons_zero]
  refine gq_call (v := .int .i64 (perd pat)) (f := 37) (args := #[.slice A n c]) (fun _ => trivial) rfl rfl (fun _ => run_call1 rfl enters_period) (fun w' hw' => (callsIn_wide.2 (period_any A pat n c w' HN.out HL16.out (HC.out.2.2.2.next hw') HOK.out)).mono fun e w'' he => ⟨he.1, below_next hw' he.2⟩) ?_
  simp only [Act.put, List.setIfInBounds_toArray, List.set_cons_succ, List.set_cons_zero]
  refine gq_val (v := .int .i64 (phase % perd pat)) (fun _ => trivial) rfl (fun w' hw' => run_remI rfl rfl H0.out.1 (by have := HPB.out; omega)) ?_
  simp only [Act.put, List.setIfInBounds_toArray, List.set_cons_succ, List.set_cons_zero]
  refine gq_val (v := .int .i64 (-(phase % perd pat))) (fun _ => trivial) rfl (fun w' hw' => run_neg rfl (by unfold Rg; have := HPB.out; omega)) ?_
  simp only [Act.put, List.setIfInBounds_toArray, List.set_cons_succ, List.set_cons_zero]
  refine gq_val (v := .int .i64 (-(phase % perd pat))) (fun _ => trivial) rfl (fun w' hw' => rfl) ?_
  simp only [Act.put, List.setIfInBounds_toArray, List.set_cons_succ, List.set_cons_zero]
  refine wpQuietIn_nil ?_
  rintro V1 hb
  have HJ1 := hid (HJ.out _ _ _ _ HJ0.out hb)
  clear hb HJ0 HC
  have HB0 := hid (show -2097120 ≤ b0 ∧ b0 ≤ 0 by have := HPB.out; omega)
  rw [← hb0]
  clear hb0 HPB
  gi_wp2
  gi_loopw [5, 6] (fun s5 s6 wr => ∃ (i : Nat) (M : Nat → Prop), s5 = .int .i64 (bgn pat b0 i) ∧ s6 = .int .i64 i ∧ Hid (J (spansTo pat b0 len i).length M wr)) (fun s5 _ _ => (len - intOf s5).toNat)
  case atStart => exact ⟨0, M, rfl, rfl, HJ1⟩
  case round =>
    clear HJ1
    obtain ⟨i, M, rfl, rfl, HK⟩ := hrel
    have HC := hid (HI.out _ _ _ (HJI.out _ _ _ HK.out))
    obtain ⟨x0, x1, x2, -⟩ := HC.out
    have hge := bgn_ge HOK.out HNE.out b0 (Nat.zero_le i)
    rw [show bgn pat b0 0 = b0 from rfl] at hge
    by_cases hlt : bgn pat b0 i < len
    · have HRM := hid (show i % n < n from Nat.mod_lt _ (by have := HN1.out; omega))
      have hil : i % n < pat.length := by have := HRM.out; have := HN.out; omega
      obtain ⟨a, rfl, hal, hc⟩ := HC.out.2.2.2.at_ hil
      have HAL := hid hal
      have HX := hid hc
      have hxb := HOK.out _ (List.getElem_mem hil)
      have HB1 := hid (show bgn pat b0 (i + 1) = bgn pat b0 i + pat[i % n]'hil by
        show bgn pat b0 i + pat.getD (i % pat.length) 0 = _
        have e : i % pat.length = i % n := by rw [HN.out]
        rw [e, List.getD_eq_getElem?_getD, List.getElem?_eq_getElem hil]; rfl)
      have HSP := hid (show spn pat b0 len i = if i % 2 = 0 ∧ max (bgn pat b0 i) 0 < min (bgn pat b0 (i + 1)) len then some (max (bgn pat b0 i) 0, min (bgn pat b0 (i + 1)) len) else none from rfl)
      rw [HB1.out] at HSP
      generalize pat[i % n]'hil = x at HX hxb HB1 HSP
      have HG := hid (fun p => spans_get HOK.out HNE.out (p := p) hlt)
      obtain ⟨B, hB⟩ : ∃ B, B = bgn pat b0 i := ⟨_, rfl⟩
      have HBB := hid hB
      have hib : (i : Int) ≤ 2000000000000 := by have := HB0.out; omega
      rw [← hB] at HSP HB1 hlt hge ⊢
      have hb0' := HB0.out
      have hxl := hlen.2
      clear hal hc hil hB
      gi_wp2
      clear x0 x1 x2
      refine grow_round (by kernel_rfl) (by kernel_rfl) (by kernel_rfl) ?_
      refine gq_val (v := .int .i64 B) (fun _ => trivial) rfl (fun w' hw' => rfl) ?_
      simp only [Act.put, List.setIfInBounds_toArray, List.set_cons_succ, List.set_cons_zero]
      refine gq_val (v := .slice (some a) n c) (fun _ => trivial) rfl (fun w' hw' => run_loadIs rfl (below_cell0 hw' HC.out.2.1)) ?_
      simp only [Act.put, List.setIfInBounds_toArray, List.set_cons_succ, List.set_cons_zero]
      refine gq_val (v := .int .i64 (i : Int)) (fun _ => trivial) rfl (fun w' hw' => rfl) ?_
      simp only [Act.put, List.setIfInBounds_toArray, List.set_cons_succ, List.set_cons_zero]
      refine gq_val (v := .slice (some a) n c) (fun _ => trivial) rfl (fun w' hw' => run_loadIs rfl (below_cell0 hw' HC.out.2.1)) ?_
      simp only [Act.put, List.setIfInBounds_toArray, List.set_cons_succ, List.set_cons_zero]
      refine gq_val (v := .int .i64 (n : Int)) (fun _ => trivial) rfl (fun w' hw' => run_lenI rfl) ?_
      simp only [Act.put, List.setIfInBounds_toArray, List.set_cons_succ, List.set_cons_zero]
      refine gq_val (v := .int .i64 ((i % n : Nat) : Int)) (fun _ => trivial) rfl (fun w' hw' => run_remN0 rfl rfl (by have := HN1.out; omega)) ?_
      simp only [Act.put, List.setIfInBounds_toArray, List.set_cons_succ, List.set_cons_zero]
      refine gq_val (v := .pointer (some (a.add (i % n)))) (fun _ => trivial) rfl (fun w' hw' => (run_idxI rfl rfl (by omega) (by have := HRM.out; omega)).trans (by rw [Int.toNat_natCast])) ?_
      simp only [Act.put, List.setIfInBounds_toArray, List.set_cons_succ, List.set_cons_zero]
      refine gq_val (v := .int .i64 x) (fun _ => trivial) rfl (fun w' hw' => run_loadInt rfl ((hw'.cell (by rw [add_block]; exact HAL.out)).trans HX.out)) ?_
      simp only [Act.put, List.setIfInBounds_toArray, List.set_cons_succ, List.set_cons_zero]
      refine gq_val (v := .int .i64 (B + x)) (fun _ => trivial) rfl (fun w' hw' => run_add rfl rfl (by unfold Rg; omega)) ?_
      simp only [Act.put, List.setIfInBounds_toArray, List.set_cons_succ, List.set_cons_zero]
      refine gq_val (v := .int .i64 (B + x)) (fun _ => trivial) rfl (fun w' hw' => rfl) ?_
      simp only [Act.put, List.setIfInBounds_toArray, List.set_cons_succ, List.set_cons_zero]
      refine wpQuietIn_nil ?_
      rintro W4 hb4
      have HJ4 := hid (HJ.out _ _ _ _ HK.out hb4)
      have HC5 := hid (HI.out _ _ _ (HJI.out _ _ _ HJ4.out))
      clear hb4 HC
      gi_wp2
      refine grow_round (by kernel_rfl) (by kernel_rfl) (by kernel_rfl) ?_
      refine gq_val (v := .int .i64 B) (fun _ => trivial) rfl (fun w' hw' => rfl) ?_
      simp only [Act.put, List.setIfInBounds_toArray, List.set_cons_succ, List.set_cons_zero]
      refine gq_val (v := .int .i64 (max B 0)) (fun _ => trivial) rfl (fun w' hw' => run_max2 rfl rfl) ?_
      simp only [Act.put, List.setIfInBounds_toArray, List.set_cons_succ, List.set_cons_zero]
      refine gq_val (v := .int .i64 (B + x)) (fun _ => trivial) rfl (fun w' hw' => rfl) ?_
      simp only [Act.put, List.setIfInBounds_toArray, List.set_cons_succ, List.set_cons_zero]
      refine gq_val (v := .int .i64 len) (fun _ => trivial) rfl (fun w' hw' => run_loadInt rfl (below_cell0 hw' HC5.out.2.2.1)) ?_
      simp only [Act.put, List.setIfInBounds_toArray, List.set_cons_succ, List.set_cons_zero]
      refine gq_val (v := .int .i64 (min (B + x) len)) (fun _ => trivial) rfl (fun w' hw' => run_min2 rfl rfl) ?_
      simp only [Act.put, List.setIfInBounds_toArray, List.set_cons_succ, List.set_cons_zero]
      refine gq_val (v := .int .i64 (max B 0)) (fun _ => trivial) rfl (fun w' hw' => rfl) ?_
      simp only [Act.put, List.setIfInBounds_toArray, List.set_cons_succ, List.set_cons_zero]
      refine gq_val (v := .int .i64 (min (B + x) len)) (fun _ => trivial) rfl (fun w' hw' => rfl) ?_
      simp only [Act.put, List.setIfInBounds_toArray, List.set_cons_succ, List.set_cons_zero]
      refine wpQuietIn_nil ?_
      rintro W5 hb5
      have HJ5 := hid (HJ.out _ _ _ _ HJ4.out hb5)
      clear hb5 HC5 HJ4
      obtain ⟨mx, hmx⟩ : ∃ mx, mx = max B 0 := ⟨_, rfl⟩
      obtain ⟨mn, hmn⟩ : ∃ mn, mn = min (B + x) len := ⟨_, rfl⟩
      rw [← hmx, ← hmn] at HSP ⊢
      clear hmx hmn HX HAL
      have HMS := hid (show (len - (B + x)).toNat < (len - B).toNat by omega)
      have HLT := hid hlt
      by_cases hs : i % 2 = 0 ∧ mx < mn
      · obtain ⟨hs1, hs2⟩ := hs
        have e1 : Int.tmod (i : Int) 2 = 0 := by rw [Int.tmod_eq_emod_of_nonneg (by omega)]; omega
        have e2 : (i : Int) % 2 = 0 := by omega
        rw [if_pos ⟨hs1, hs2⟩] at HSP
        obtain ⟨g1, g2, g3⟩ := HG.out _ HSP.out
        have G2 := hid g2
        have G3 := hid g3
        obtain ⟨fn, tmps, assign, body, hy, hR⟩ := HY.out _ M #[.int .i64 mx, .int .i64 mn] _ HJ5.out g3 ⟨_, g1, rfl⟩
        clear g1 g2 g3 HG hs1
        gi_wp2
        refine hR.mono ?_
        rintro e w6 (⟨rfl, M', hJ6, hg6, hk6⟩ | ⟨rfl, hX6⟩)
        · have HK6 := hid (show J (spansTo pat b0 len (i + 1)).length M' w6 by rw [G2.out]; exact hJ6)
          clear hJ6 hg6 hk6 hR hy
          gi_wp2
          go_roundw
          case rel => exact ⟨i + 1, M', by rw [HB1.out], by go_num, HK6⟩
          case measure => exact HMS.out
        · clear hR hy
          gi_wp2
          refine bodyPost_ret (results_none rfl _ _ _) rfl ?_
          exact ⟨⟨_, rfl⟩, .inr ⟨_, G3.out, hX6⟩⟩
      · rw [if_neg hs] at HSP
        have HK6 := hid (show J (spansTo pat b0 len (i + 1)).length M W5 by rw [spansTo_none HSP.out]; exact HJ5.out)
        clear HG
        by_cases hs1 : i % 2 = 0
        · have hs2 : ¬ mx < mn := fun h => hs ⟨hs1, h⟩
          have e1 : Int.tmod (i : Int) 2 = 0 := by rw [Int.tmod_eq_emod_of_nonneg (by omega)]; omega
          have e2 : (i : Int) % 2 = 0 := by omega
          clear hs
          gi_wp2
          refine ⟨fun f h => (by cases h), ?_⟩
          gi_wp2
          go_roundw
          case rel => exact ⟨i + 1, M, by rw [HB1.out], by go_num, HK6⟩
          case measure => exact HMS.out
        · have e1 : Int.tmod (i : Int) 2 = 1 := by rw [Int.tmod_eq_emod_of_nonneg (by omega)]; omega
          have e2 : (i : Int) % 2 = 1 := by omega
          clear hs
          gi_wp2
          refine ⟨fun f h => (by cases h), ?_⟩
          gi_wp2
          go_roundw
          case rel => exact ⟨i + 1, M, by rw [HB1.out], by go_num, HK6⟩
          case measure => exact HMS.out
    · have HF := hid (show J (spans pat b0 len).length M wr by rw [← spans_at HOK.out HNE.out (show len ≤ bgn pat b0 i by omega)]; exact HK.out)
      generalize bgn pat b0 i = B at hlt
      gi_wp2
      go_end0
      exact ⟨⟨_, rfl⟩, .inl ⟨M, HF.out⟩⟩
end Go.Proofs.Ytjflgblplmgjlaa
