/- dash's patterns: period, checkPattern, spans (written by r10_spn.py). -/
import Derived.Test.YtjflgblplmgjlaaBtw
import Derived.Test.YtjflgblplmgjlaaQrd
namespace Go.Proofs.Ytjflgblplmgjlaa
open Go Go.RowKit Go.Shelf
attribute [local go_sem] Oper.semAt_some
set_option linter.unusedVariables false
set_option linter.unusedSimpArgs false

/-- A slice that holds numbers, nil and empty ones too. -/
def IntsA (W : World) (A : Option Addr) (zs : List Int) : Prop := zs ≠ [] → ∃ a, A = some a ∧ a.block < W.heap.size ∧ ∀ i z, zs[i]? = some z → W.cell? (a.add i) = some (.int .i64 z)
theorem IntsA.nil (W : World) (A : Option Addr) : IntsA W A [] := fun h => absurd rfl h
theorem IntsA.next {W W' : World} {A : Option Addr} {zs : List Int} (h : IntsA W A zs) (hb : Below W.heap.size W W') : IntsA W' A zs := fun hn => by
  obtain ⟨a, rfl, hl, hr⟩ := h hn
  exact ⟨a, rfl, Nat.lt_of_lt_of_le hl hb.size, fun i s hi => (hb.cell (by rw [add_block]; exact hl)).trans (hr i s hi)⟩
theorem IntsA.at_ {W : World} {A : Option Addr} {zs : List Int} (h : IntsA W A zs) {i : Nat} (hi : i < zs.length) : ∃ a, A = some a ∧ a.block < W.heap.size ∧ W.cell? (a.add i) = some (.int .i64 zs[i]) := by
  obtain ⟨a, rfl, hl, hr⟩ := h (by intro e; subst e; simp at hi)
  exact ⟨a, rfl, hl, hr i _ (List.getElem?_eq_getElem hi)⟩
theorem sumL_take {pat : List Int} {k : Nat} (h : k < pat.length) : sumL (pat.take (k + 1)) = sumL (pat.take k) + pat[k] := by
  unfold sumL
  rw [List.take_succ_eq_append_getElem h, List.foldl_append]
  rfl
theorem sumL_bd {pat : List Int} (h : okPat pat) (k : Nat) (hk : k ≤ pat.length) : (k : Int) ≤ sumL (pat.take k) ∧ sumL (pat.take k) ≤ 65535 * k := by
  induction k with
  | zero => exact ⟨Int.le_refl _, Int.le_refl _⟩
  | succ k ih =>
    obtain ⟨h1, h2⟩ := ih (by omega)
    have h3 := h _ (List.getElem_mem (show k < pat.length by omega))
    rw [sumL_take (by omega)]
    push_cast
    omega
theorem perd_bd {pat : List Int} (h : okPat pat) (hn : 1 ≤ pat.length) (hm : pat.length ≤ 16) : 1 ≤ perd pat ∧ perd pat ≤ 2097120 := by
  have := sumL_bd h pat.length (Nat.le_refl _)
  rw [List.take_length] at this
  unfold perd
  split <;> omega

set_option maxHeartbeats 1000000 in
theorem period_any (A : Option Addr) (pat : List Int) (n c : Nat) (w : World) (hn : n = pat.length) (hm : n ≤ 16) (hs : IntsA w A pat) (hok : okPat pat) :
    Calls Try.prog 37 #[.slice A n c] w fun e w' => e = .returned (.int .i64 (perd pat)) ∧ Below w.heap.size w w' := by
  have HN := hid hn
  have HS := hid hs
  have HOK := hid hok
  clear hn hs hok
  go_enter Try.func37, Try.ntmps37
  go_wp2_with fail
  go_loopw [3, 8] (fun s3 s8 wr => ∃ (k : Nat), k ≤ n ∧ s3 = .int .i64 (sumL (pat.take k)) ∧ s8 = .int .i64 k ∧ Hid (Below w.heap.size w wr)) (fun _ s8 _ => n - (intOf s8).toNat)
  case atStart => exact ⟨0, Nat.zero_le _, rfl, rfl, hid (Below.refl _ _)⟩
  case round =>
    obtain ⟨k, hk, rfl, rfl, HB⟩ := hrel
    have hb := sumL_bd HOK.out k (by rw [← HN.out]; exact hk)
    by_cases hlt : k < n
    · have hil : k < pat.length := by rw [← HN.out]; exact hlt
      obtain ⟨a, rfl, hal, hc⟩ := (HS.out.next HB.out).at_ hil
      have HT := hid (sumL_take hil)
      have hx := HOK.out _ (List.getElem_mem hil)
      generalize pat[k] = x at hc HT hx
      generalize sumL (pat.take k) = S at HT hb
      clear hal hil
      go_wp2_with fail
      go_roundw
      case rel => exact ⟨k + 1, by omega, by rw [HT.out], by go_num, HB⟩
      case measure => simp [intOf]; omega
    · obtain rfl : k = n := by omega
      have HT := hid (show sumL (pat.take k) = sumL pat by rw [List.take_of_length_le (by have := HN.out; omega)])
      have HP := hid (show perd pat = if k % 2 = 0 then sumL pat else sumL pat * 2 by unfold perd; rw [HN.out])
      rw [HT.out] at hb ⊢
      generalize sumL pat = S at HP hb
      by_cases h2 : k % 2 = 0
      · rw [if_pos h2] at HP
        have e1 : Int.tmod (k : Int) 2 = 0 := by rw [Int.tmod_eq_emod_of_nonneg (by omega)]; omega
        have e2 : (k : Int) % 2 = 0 := by omega
        go_wp2_with fail
        go_ret
        exact ⟨by rw [HP.out]; rfl, HB.out⟩
      · rw [if_neg h2] at HP
        have e1 : Int.tmod (k : Int) 2 = 1 := by rw [Int.tmod_eq_emod_of_nonneg (by omega)]; omega
        have e2 : (k : Int) % 2 = 1 := by omega
        go_wp2_with fail
        go_ret
        exact ⟨by rw [HP.out]; rfl, HB.out⟩

/-- What checkPattern returns. -/
def pchk (pat : List Int) (phase : Int) : Int :=
  if pat.length < 1 ∨ 16 < pat.length then 2 else if ∃ x ∈ pat, x < 1 ∨ 65535 < x then 3 else if phase < 0 ∨ 1048576 < phase then 3 else 0
theorem pchk_ok {pat : List Int} {phase : Int} (h : pchk pat phase = 0) : 1 ≤ pat.length ∧ pat.length ≤ 16 ∧ okPat pat ∧ 0 ≤ phase ∧ phase ≤ 1048576 := by
  unfold pchk at h
  split at h
  · cases h
  · split at h
    · cases h
    · split at h
      · cases h
      · rename_i h1 h2 h3
        refine ⟨by omega, by omega, fun x hx => ?_, by omega, by omega⟩
        exact ⟨Int.not_lt.1 fun h => h2 ⟨x, hx, .inl h⟩, Int.not_lt.1 fun h => h2 ⟨x, hx, .inr h⟩⟩
theorem okPat_take {pat : List Int} {k : Nat} (h : k < pat.length) (h1 : okPat (pat.take k)) (h2 : 1 ≤ pat[k] ∧ pat[k] ≤ 65535) : okPat (pat.take (k + 1)) := by
  rw [List.take_succ_eq_append_getElem h]
  intro x hx
  rcases List.mem_append.1 hx with h3 | h3
  · exact h1 x h3
  · rw [List.mem_singleton.1 h3]; exact h2
set_option maxHeartbeats 1000000 in
theorem pchk_any (A : Option Addr) (pat : List Int) (phase : Int) (n c : Nat) (w : World) (hn : n = pat.length) (hl : n ≤ maxLen) (hs : IntsA w A pat) :
    Calls Try.prog 23 #[.slice A n c, .int .i64 phase] w fun e w' => e = .returned (.int .i64 (pchk pat phase)) ∧ Below w.heap.size w w' := by
  have HN := hid hn
  have HS := hid hs
  unfold maxLen at hl
  clear hn hs
  by_cases h1 : n < 1
  · have HE := hid (show pchk pat phase = 2 by unfold pchk; rw [if_pos (by have := HN.out; omega)])
    rw [HE.out]
    have h1' : (n : Int) < 1 := by omega
    go_enter Try.func23, Try.ntmps23
    go_wp2_with fail
    go_ret
    exact ⟨rfl, Below.refl _ _⟩
  by_cases h2 : 16 < n
  · have HE := hid (show pchk pat phase = 2 by unfold pchk; rw [if_pos (by have := HN.out; omega)])
    rw [HE.out]
    have h1' : ¬ (n : Int) < 1 := by omega
    have h2' : (16 : Int) < (n : Int) := by omega
    have h3' : decide ((16 : Int) < (n : Int)) = true := decide_eq_true h2'
    go_enter Try.func23, Try.ntmps23
    go_wp2_with fail
    go_ret
    exact ⟨rfl, Below.refl _ _⟩
  have hno : ¬ (pat.length < 1 ∨ 16 < pat.length) := by have := HN.out; omega
  have HNO := hid hno
  clear hno
  have h1' : ¬ (n : Int) < 1 := by omega
  have h2' : ¬ (16 : Int) < (n : Int) := by omega
  obtain ⟨R, hR⟩ : ∃ R, R = pchk pat phase := ⟨_, rfl⟩
  have HR := hid hR
  rw [← hR]
  clear hR
  go_enter Try.func23, Try.ntmps23
  go_wp2_with fail
  go_loopw [17] (fun s5 wr => ∃ (k : Nat), k ≤ n ∧ s5 = .int .i64 k ∧ Hid (okPat (pat.take k)) ∧ Hid (Below w.heap.size w wr)) (fun s5 _ => n - (intOf s5).toNat)
  case atStart => exact ⟨0, Nat.zero_le _, rfl, hid (fun x h => by simp at h), hid (Below.refl _ _)⟩
  case round =>
    obtain ⟨k, hk, rfl, HO, HB⟩ := hrel
    by_cases hlt : k < n
    · have hil : k < pat.length := by rw [← HN.out]; exact hlt
      obtain ⟨a, rfl, hal, hc⟩ := (HS.out.next HB.out).at_ hil
      have HT := hid (okPat_take hil HO.out)
      have HX := hid (List.getElem_mem hil)
      generalize pat[k] = x at hc HT HX
      clear hal hil
      by_cases h3 : x < 1
      · have HE := hid (show R = 3 by rw [HR.out]; unfold pchk; rw [if_neg HNO.out, if_pos ⟨x, HX.out, .inl h3⟩])
        go_wp2_with fail
        go_ret
        exact ⟨by rw [HE.out]; rfl, HB.out⟩
      by_cases h4 : 65535 < x
      · have HE := hid (show R = 3 by rw [HR.out]; unfold pchk; rw [if_neg HNO.out, if_pos ⟨x, HX.out, .inr h4⟩])
        go_wp2_with fail
        go_ret
        exact ⟨by rw [HE.out]; rfl, HB.out⟩
      have HO' := hid (HT.out (by omega))
      go_wp2_with fail
      go_roundw
      case rel => exact ⟨k + 1, by omega, by go_num, HO', HB⟩
      case measure => simp [intOf]; omega
    · have HO' := hid (show okPat pat by have := HO.out; rwa [List.take_of_length_le (by have := HN.out; omega)] at this)
      have HQ := hid (show ¬ ∃ x ∈ pat, x < 1 ∨ 65535 < x from fun ⟨x, hx, h⟩ => by have := HO'.out x hx; omega)
      by_cases h3 : phase < 0
      · have HE := hid (show R = 3 by rw [HR.out]; unfold pchk; rw [if_neg HNO.out, if_neg HQ.out, if_pos (.inl h3)])
        go_wp2_with fail
        go_ret
        exact ⟨by rw [HE.out]; rfl, HB.out⟩
      by_cases h4 : 1048576 < phase
      · have HE := hid (show R = 3 by rw [HR.out]; unfold pchk; rw [if_neg HNO.out, if_neg HQ.out, if_pos (.inr h4)])
        go_wp2_with fail
        go_ret
        exact ⟨by rw [HE.out]; rfl, HB.out⟩
      have HE := hid (show R = 0 by rw [HR.out]; unfold pchk; rw [if_neg HNO.out, if_neg HQ.out, if_neg (by omega)])
      go_wp2_with fail
      go_ret
      exact ⟨by rw [HE.out]; rfl, HB.out⟩
end Go.Proofs.Ytjflgblplmgjlaa
