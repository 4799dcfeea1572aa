/- keep1's dashes, and the law DashPeriod. -/
import Derived.Test.YtjflgblplmgjlaaKpt
import Derived.Deep.DeepCutAuto
namespace Go.Proofs.Ytjflgblplmgjlaa
open Go Go.RowKit
set_option linter.unusedVariables false
set_option linter.unusedSimpArgs false

set_option maxHeartbeats 2000000 in
theorem kdashes_any (w : World) : Calls Try.prog 7 #[] w fun e w' => e = .returned (.bool true) ∧ Below w.heap.size w w' := by
  have HB0 := hid (below_alloc (below_alloc (Below.refl w.heap.size w) (.cells #[.int .i64 0, .int .i64 0, .int .i64 10, .int .i64 0] 37)) (.cells #[.int .i64 4, .int .i64 2] 3))
  have HV1 := hid ((Var.new w #[.int .i64 0, .int .i64 0, .int .i64 10, .int .i64 0] 37 _ rfl).alloc (.cells #[.int .i64 4, .int .i64 2] 3))
  have HV2 := hid (Var.new (w.alloc (.cells #[.int .i64 0, .int .i64 0, .int .i64 10, .int .i64 0] 37)) #[.int .i64 4, .int .i64 2] 3 (w.heap.size + 1) (by simp))
  go_enter Try.func7, Try.ntmps7
  go_wp2_with fail
  (with_reducible refine (gdash_any _ _ _ HV1.out HV2.out).mono ?_); rintro e w1 ⟨A, c, e0, e1, rfl, hL, h0, h1, hb⟩
  have HB1 := hid (below_next HB0.out hb)
  obtain ⟨a, rfl, hal, hsa⟩ := hL.at_ (show 1 < [e0, e1].length by simp)
  obtain ⟨c0, -, hp, -⟩ := hsa
  have c0' : w1.cell? ⟨a.block, a.off + 2, none⟩ = some (.slice e1.A 2 e1.c) := by
    have : a.add (1 * 2) = ⟨a.block, a.off + 2, none⟩ := rfl
    rw [← this]; rw [c0]; show some (Value.slice e1.A e1.ps.length e1.c) = _; rw [h1]; rfl
  have HP1 := hid (show Pts w1 e1.A [⟨5, 0⟩, ⟨9, 0⟩] by rw [← h1]; exact hp)
  have HV := hid (Var.new w1 #[.int .i64 5, .int .i64 0, .int .i64 9, .int .i64 0] 37 _ rfl)
  have HB2 := hid (below_alloc (Below.refl w1.heap.size w1) (.cells #[.int .i64 5, .int .i64 0, .int .i64 9, .int .i64 0] 37))
  clear hL h0 h1 hb hal c0 hp
  go_wp2_with fail
  (with_reducible refine (equalp_yes e1.A _ 2 e1.c 2 [⟨5, 0⟩, ⟨9, 0⟩] _ rfl (by decide) (HP1.out.next HB2.out) (pts2 (p := ⟨5, 0⟩) (q := ⟨9, 0⟩) HV.out)).mono ?_); rintro e w3 ⟨rfl, hb⟩
  have HB3 := hid (below_next HB1.out (below_next HB2.out hb))
  clear hb
  go_wp2_with fail
  go_ret
  exact ⟨rfl, HB3.out⟩

/-! ### short lines have few dashes -/
def P500 (p : P2) : Prop := (-500 ≤ p.x ∧ p.x ≤ 500) ∧ -500 ≤ p.y ∧ p.y ≤ 500
theorem P500.pin {p : P2} (h : P500 p) : PIn p := by unfold P500 at h; unfold PIn; omega
theorem dst_500 {p q : P2} (hp : P500 p) (hq : P500 q) : dst p q ≤ 1415 := by
  obtain ⟨⟨a, b⟩, c, d⟩ := hp
  obtain ⟨⟨a', b'⟩, c', d'⟩ := hq
  have h1 := sq_bd (a := q.x - p.x) (A := 1000) ⟨by omega, by omega⟩
  have h2 := sq_bd (a := q.y - p.y) (A := 1000) ⟨by omega, by omega⟩
  have h := dst_root p q
  rcases Int.lt_or_le (dst p q) 1416 with k | k
  · omega
  · have := sq_le (show (0 : Int) ≤ 1416 by omega) k
    have := h.2.1
    unfold dsq at this
    omega
theorem posn_500 {ps : List P2} (h : ∀ p ∈ ps, P500 p) (j : Nat) : posn ps j ≤ 1415 * (j : Int) := by
  have g : ∀ j, P500 (ps.getD j default) := fun j => by
    rcases Nat.lt_or_ge j ps.length with k | k
    · rw [List.getD_eq_getElem?_getD, List.getElem?_eq_getElem k]
      exact h _ (List.getElem_mem k)
    · rw [List.getD_eq_getElem?_getD, List.getElem?_eq_none k]
      exact ⟨⟨by decide, by decide⟩, by decide, by decide⟩
  induction j with
  | zero => exact Int.le_refl _
  | succ j ih =>
    have := dst_500 (g j) (g (j + 1))
    show posn ps j + _ ≤ _
    push_cast
    omega
/-- A line of the laws. -/
def okLn (ps : List P2) : Prop := (∀ p ∈ ps, P500 p) ∧ ps.length ≤ 8
theorem okLn.pin {ps : List P2} (h : okLn ps) : ∀ p ∈ ps, PIn p := fun p hp => (h.1 p hp).pin
theorem okLn.chk {ps : List P2} (h : okLn ps) (cl : Bool) : lchk [⟨ps, cl⟩] = 0 := by
  refine lchk_t ?_
  unfold lok okPs
  rw [List.all_eq_true]
  intro l hl
  rw [List.mem_singleton.1 hl, List.all_eq_true]
  intro p hp
  obtain ⟨h1, h2⟩ := h.pin p hp
  unfold okP
  rw [inB_yes h1, inB_yes h2]
  rfl
theorem okLn.len {ps : List P2} (h : okLn ps) (cl : Bool) : lenP (walkP ps cl) ≤ 11320 := by
  have h1 : ∀ p ∈ walkP ps cl, P500 p := by
    unfold walkP
    split
    · rename_i hc
      intro p hp
      rcases List.mem_append.1 hp with h1 | h1
      · exact h.1 p h1
      · rw [List.mem_singleton.1 h1, List.getD_eq_getElem?_getD, List.getElem?_eq_getElem (by omega : 0 < ps.length)]
        exact h.1 _ (List.getElem_mem _)
    · exact h.1
  have h2 := posn_500 h1 ((walkP ps cl).length - 1)
  have h3 := walkP_len ps cl
  have h4 := h.2
  unfold lenP
  omega
theorem bgn_3 {pat : List Int} (h : ∀ x ∈ pat, 3 ≤ x) (hn : pat ≠ []) (b0 : Int) (i : Nat) : b0 + 3 * (i : Int) ≤ bgn pat b0 i := by
  induction i with
  | zero => show b0 + 3 * 0 ≤ b0; omega
  | succ i ih =>
    have hl : i % pat.length < pat.length := Nat.mod_lt _ (List.length_pos_iff.2 hn)
    have := h _ (List.getElem_mem hl)
    show _ ≤ bgn pat b0 i + pat.getD (i % pat.length) 0
    rw [List.getD_eq_getElem?_getD, List.getElem?_eq_getElem hl, Option.getD_some]
    push_cast
    omega
theorem sumL_up {pat : List Int} {m : Int} (h : ∀ x ∈ pat, 3 ≤ x ∧ x ≤ m) (k : Nat) (hk : k ≤ pat.length) : 3 * (k : Int) ≤ sumL (pat.take k) ∧ sumL (pat.take k) ≤ m * k := by
  induction k with
  | zero => exact ⟨by simp [sumL], by simp [sumL]⟩
  | succ k ih =>
    obtain ⟨h1, h2⟩ := ih (by omega)
    have h3 := h _ (List.getElem_mem (show k < pat.length by omega))
    rw [sumL_take (by omega)]
    have e : m * ((k + 1 : Nat) : Int) = m * k + m := by push_cast; grind
    rw [e]
    push_cast
    omega
theorem okK.pat {m : Int} {zs : List Int} (h : okK 3 m zs) (hm : m ≤ 300) : okPat zs ∧ zs ≠ [] ∧ 1 ≤ perd zs ∧ perd zs ≤ 3600 := by
  have h1 := sumL_up h.1 zs.length (Nat.le_refl _)
  rw [List.take_length] at h1
  have hn : zs ≠ [] := fun e => by have := h.2.1; rw [e] at this; simp at this
  have hp : okPat zs := fun x hx => by have := h.1 x hx; omega
  have h2 := h.2
  have h3 : m * (zs.length : Int) ≤ 300 * zs.length := Int.mul_le_mul_of_nonneg_right hm (by omega)
  refine ⟨hp, hn, ?_⟩
  unfold perd
  split <;> omega
theorem few_spans {ps : List P2} {cl : Bool} {m : Int} {zs : List Int} {phase : Int} (h : okLn ps) (hz : okK 3 m zs) (hm : m ≤ 300) : (spD ps cl zs phase).length ≤ 10000 := by
  obtain ⟨h1, h2, h3, h4⟩ := hz.pat hm
  have e1 := Int.emod_nonneg phase (show perd zs ≠ 0 by omega)
  have e2 := Int.emod_lt_of_pos phase (show 0 < perd zs by omega)
  have h5 := h.len cl
  have h6 := bgn_3 (fun x hx => (hz.1 x hx).1) h2 (-(phase % perd zs)) 6000
  have h7 := spans_at h1 h2 (b0 := -(phase % perd zs)) (len := lenP (walkP ps cl)) (i := 6000) (by omega)
  unfold spD
  rw [← h7]
  unfold spansTo
  refine Nat.le_trans (List.length_filterMap_le _ _) ?_
  rw [List.length_range]
  omega
theorem pchk_of {zs : List Int} {m : Int} {phase : Int} (hz : okK 3 m zs) (hm : m ≤ 300) (h0 : 0 ≤ phase) (h1 : phase ≤ 1048576) : pchk zs phase = 0 := by
  unfold pchk
  rw [if_neg (by have := hz.2; omega), if_neg, if_neg (by omega)]
  rintro ⟨x, hx, h⟩
  have := hz.1 x hx
  omega
/-- Dash of a line and a pattern of the laws. -/
theorem kdash_any {m : Int} (A B : Option Addr) (ps : List P2) (zs : List Int) (n c k d : Nat) (cl : Bool) (phase : Int) (w : World) (hn : n = ps.length) (hc : n ≤ c ∧ c ≤ maxLen) (hs : Pts w A ps) (hok : okLn ps) (hk : k = zs.length) (hp : IntsA w B zs) (hz : okK 3 m zs) (hm : m ≤ 300) (h0 : 0 ≤ phase) (h1 : phase ≤ 1048576) :
    Calls Try.prog 11 #[.agg #[.slice A n c, .bool cl], .slice B k d, .int .i64 phase] w fun e w' =>
      ∃ A' c' es, e = .returned (.tuple #[.slice A' es.length c', .int .i64 0]) ∧ LnsE w' A' es ∧ es.map LE.ln = dashL (walkP ps cl) (spD ps cl zs phase) (spD ps cl zs phase).length ∧ Below w.heap.size w w' := by
  refine (dash_ok A B ps zs n c k d cl phase w hn (by have := hok.2; omega) hc hs (hok.chk cl) hk (by have := hz.2.2; unfold maxLen; omega) hp (pchk_of hz hm h0 h1)).mono ?_
  rintro e w' ⟨⟨-, A', c', es, rfl, hL, he⟩ | ⟨h, -⟩, hb⟩
  · exact ⟨A', c', es, rfl, hL, he, hb⟩
  · have := few_spans (cl := cl) (phase := phase) hok hz hm
    omega
end Go.Proofs.Ytjflgblplmgjlaa
