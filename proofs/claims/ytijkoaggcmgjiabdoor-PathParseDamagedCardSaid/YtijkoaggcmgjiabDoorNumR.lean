/- Numbers one behind the other, by places and by words. -/
import Derived.Test.YtijkoaggcmgjiabDoorNumW
namespace Go.Proofs.YtijkoaggcmgjiabDoor
open Go
set_option linter.unusedVariables false
set_option linter.unusedSimpArgs false

/-- A place where a word has ended. -/
def Bd (l : List UInt8) (a : Nat) : Prop := a = l.length ∨ a < l.length ∧ byteAt l a = 32
/-- The words behind such a place. -/
def tailW (l : List UInt8) (a : Nat) : List (List UInt8) := if a < l.length then wo (l.drop (a + 1)) else []
def numsL : Nat → List (List UInt8) → Option (List Int × List (List UInt8))
  | 0, ws => some ([], ws)
  | _ + 1, [] => none
  | k + 1, w :: ws => match numL w with
    | none => none
    | some z => match numsL k ws with
      | none => none
      | some (zs, r) => some (z :: zs, r)
/-- k numbers, each behind a space, from place a on. -/
def numsR (l : List UInt8) : Nat → Nat → Option (List Int × Nat)
  | 0, a => some ([], a)
  | k + 1, a => if a < l.length ∧ byteAt l a = 32 then match digS l (a + 1) with
      | none => none
      | some (n, nx) => match numsR l k nx with
        | none => none
        | some (zs, e) => some (n :: zs, e)
    else none
theorem wo_first : ∀ x : List UInt8, ∃ w r, x = w ++ r ∧ (32 : UInt8) ∉ w ∧ (r = [] ∧ wo x = [w] ∨ ∃ q, r = 32 :: q ∧ wo x = w :: wo q)
  | [] => ⟨[], [], rfl, by simp, .inl ⟨rfl, rfl⟩⟩
  | b :: x => by
    by_cases hb : b = 32
    · subst hb
      exact ⟨[], 32 :: x, rfl, by simp, .inr ⟨x, rfl, wo_space x⟩⟩
    · obtain ⟨w, r, rfl, hw, h⟩ := wo_first x
      refine ⟨b :: w, r, rfl, by simp [hw, Ne.symm hb], ?_⟩
      rcases h with ⟨hr, h⟩ | ⟨q, hr, h⟩
      · exact .inl ⟨hr, wo_cons hb h⟩
      · exact .inr ⟨q, hr, wo_cons hb h⟩
theorem numL_no {w : List UInt8} {v : Int} (h : numL w = some v) : (32 : UInt8) ∉ w := by
  rw [(numL_iff.1 h).1]
  exact itoa_no v
theorem numL_ne {w : List UInt8} {v : Int} (h : numL w = some v) : w ≠ [] := by
  obtain ⟨d, hd, _, ⟨rfl, _⟩ | ⟨rfl, _⟩⟩ := itoa_form.1 (numL_iff.1 h)
  · exact hd.ne
  · simp
theorem digS_le {l : List UInt8} {a : Nat} {n : Int} {k : Nat} (h : digS l a = some (n, k)) (ha : a ≤ l.length) : a ≤ k ∧ k ≤ l.length := by
  obtain ⟨w, hk, hw, _⟩ := digS_some h
  have := congrArg List.length hw
  rw [List.length_take, List.length_drop] at this
  omega
/-- Where the number's word ends, too, the word is the number's spelling. -/
theorem word_end {l : List UInt8} {a : Nat} {n : Int} {k : Nat} (h : digS l a = some (n, k)) (ha : a ≤ l.length) (hb : Bd l k) : ∃ w, numL w = some n ∧ wo (l.drop a) = w :: tailW l k := by
  obtain ⟨w, hk, hw, hn⟩ := digS_some h
  have hle := digS_le h ha
  have hsp : l.drop a = w ++ l.drop k := by
    have := (List.take_append_drop w.length (l.drop a)).symm
    rw [← hw, List.drop_drop, ← hk] at this
    exact this
  refine ⟨w, hn, ?_⟩
  rcases hb with hb | ⟨hb1, hb2⟩
  · rw [hsp, hb, List.drop_length, List.append_nil, wo_last w (numL_no hn)]
    unfold tailW
    rw [if_neg (by omega)]
  · have e : l.drop k = 32 :: l.drop (k + 1) := by
      rw [List.drop_eq_getElem_cons hb1]
      congr 1
      unfold byteAt at hb2
      rw [List.getD_eq_getElem?_getD, List.getElem?_eq_getElem hb1] at hb2
      exact hb2
    rw [hsp, e, wo_piece w _ (numL_no hn)]
    unfold tailW
    rw [if_pos hb1]
/-- Where it does not end there, the word is no number; and where nothing is read, it is none either. -/
theorem word_no {l : List UInt8} {a : Nat} (ha : a ≤ l.length) (h : ∀ n k, digS l a = some (n, k) → ¬ Bd l k) : ∃ w ws, wo (l.drop a) = w :: ws ∧ numL w = none := by
  obtain ⟨w, r, hx, hw, hr⟩ := wo_first (l.drop a)
  have key : numL w = none := by
    cases hn : numL w with
    | none => rfl
    | some v =>
      exfalso
      have hr' : ∀ b q, r = b :: q → b = 32 := by
        rcases hr with ⟨rfl, _⟩ | ⟨q, rfl, _⟩
        · intro b q e; cases e
        · intro b q' e; injection e with e1 _; exact e1.symm
      have hd := digS_of hn hx hr'
      refine h _ _ hd ?_
      have hlen := congrArg List.length hx
      rw [List.length_drop, List.length_append] at hlen
      rcases hr with ⟨rfl, _⟩ | ⟨q, rfl, _⟩
      · exact .inl (by simp at hlen; omega)
      · have e : l.drop (a + w.length) = 32 :: q := by rw [← List.drop_drop, hx, List.drop_left']; rfl
        exact .inr ⟨(byteAt_cons e).1, (byteAt_cons e).2.1⟩
  rcases hr with ⟨_, e⟩ | ⟨q, _, e⟩
  · exact ⟨w, [], e, key⟩
  · exact ⟨w, _, e, key⟩
theorem nums_eq {l : List UInt8} : ∀ (k a : Nat), Bd l a → match numsR l k a with
    | some (zs, e) => (Bd l e → numsL k (tailW l a) = some (zs, tailW l e)) ∧ (¬ Bd l e → numsL k (tailW l a) = none) ∧ e ≤ l.length
    | none => numsL k (tailW l a) = none
  | 0, a, hb => by
    show (Bd l a → some ([], tailW l a) = some ([], tailW l a)) ∧ (¬ Bd l a → _) ∧ a ≤ l.length
    exact ⟨fun _ => rfl, fun h => absurd hb h, by rcases hb with h | h; omega; omega⟩
  | k + 1, a, hb => by
    rw [numsR]
    by_cases h32 : a < l.length ∧ byteAt l a = 32
    · rw [if_pos h32]
      have htw : tailW l a = wo (l.drop (a + 1)) := by unfold tailW; rw [if_pos h32.1]
      rw [htw]
      cases hd : digS l (a + 1) with
      | none =>
        obtain ⟨w, ws, e, hn⟩ := word_no (l := l) (a := a + 1) (by omega) fun n k' e => by rw [hd] at e; cases e
        simp only
        rw [e, numsL, hn]
      | some p =>
        obtain ⟨n, nx⟩ := p
        have hle := digS_le hd (by omega)
        simp only
        by_cases hbx : Bd l nx
        · obtain ⟨w, hn, e⟩ := word_end hd (by omega) hbx
          have ih := nums_eq k nx hbx
          rw [e, numsL, hn]
          cases hr : numsR l k nx with
          | none =>
            rw [hr] at ih
            simp only at ih ⊢
            rw [ih]
          | some q =>
            obtain ⟨zs, e'⟩ := q
            rw [hr] at ih
            simp only at ih ⊢
            refine ⟨fun hb' => ?_, fun hb' => ?_, ih.2.2⟩
            · rw [ih.1 hb']
            · rw [ih.2.1 hb']
        · obtain ⟨w, ws, e, hn⟩ := word_no (l := l) (a := a + 1) (by omega) fun n' k' e => by
            rw [hd] at e
            injection e with e
            injection e with _ e2
            rw [← e2]
            exact hbx
          rw [e, numsL, hn]
          cases k with
          | zero => exact ⟨fun h => absurd h hbx, fun _ => rfl, hle.2⟩
          | succ k =>
            rw [numsR, if_neg (fun h => hbx (.inr h))]
    · rw [if_neg h32]
      rcases hb with hb | hb
      · have htw : tailW l a = [] := by unfold tailW; rw [if_neg (by omega)]
        simp only
        rw [htw, numsL]
      · exact absurd hb h32

end Go.Proofs.YtijkoaggcmgjiabDoor
