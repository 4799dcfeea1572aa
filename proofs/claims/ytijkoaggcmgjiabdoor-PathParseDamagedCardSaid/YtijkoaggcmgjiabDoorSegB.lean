/- Parse's answer by places. -/
import Derived.Test.YtijkoaggcmgjiabDoorSegR
import Derived.Test.YtijkoaggcmgjiabDoorParse
namespace Go.Proofs.YtijkoaggcmgjiabDoor
open Go
set_option linter.unusedVariables false
set_option linter.unusedSimpArgs false

abbrev dB (b : ByteArray) : List UInt8 := b.data.toList
theorem numsL_B : ∀ (k : Nat) (bs : List ByteArray), numsL k (bs.map dB) = (numsB k bs).map fun p => (p.1, p.2.map dB)
  | 0, bs => by
    unfold numsB
    rw [if_neg (Nat.not_lt_zero _), List.take_zero, List.drop_zero]
    rfl
  | k + 1, [] => by
    unfold numsB
    rw [if_pos (by simp)]
    rfl
  | k + 1, b :: r => by
    have ih := numsL_B k r
    have e1 : numsL (k + 1) ((b :: r).map dB) = match numB b with
        | none => none
        | some z => match numsL k (r.map dB) with
          | none => none
          | some (zs, q) => some (z :: zs, q) := rfl
    rw [e1, ih]
    unfold numsB
    rw [List.take_succ_cons, List.drop_succ_cons]
    have e2 : mapN (b :: r.take k) = match numB b with
        | none => none
        | some z => match mapN (r.take k) with
          | none => none
          | some zs => some (z :: zs) := rfl
    rw [e2]
    cases numB b with
    | none => by_cases h : (b :: r).length < k + 1 <;> simp [h]
    | some z =>
      by_cases h : r.length < k
      · rw [if_pos h, if_pos (by simp; omega)]; rfl
      · rw [if_neg h, if_neg (by simp; omega)]
        cases mapN (r.take k) <;> rfl
theorem dB_inj {a b : ByteArray} (h : dB a = dB b) : a = b := ByteArray.ext (Array.toList_inj.1 h)
theorem segL_B : ∀ bs : List ByteArray, segL (bs.map dB) = (segW bs).map fun p => (p.1, p.2.map dB)
  | [] => rfl
  | w :: r => by
    have h109 : w = ⟨#[109]⟩ ↔ dB w = [109] := ⟨fun e => by rw [e], fun e => dB_inj e⟩
    have h108 : w = ⟨#[108]⟩ ↔ dB w = [108] := ⟨fun e => by rw [e], fun e => dB_inj e⟩
    have h113 : w = ⟨#[113]⟩ ↔ dB w = [113] := ⟨fun e => by rw [e], fun e => dB_inj e⟩
    have h104 : w = ⟨#[104]⟩ ↔ dB w = [104] := ⟨fun e => by rw [e], fun e => dB_inj e⟩
    rw [List.map_cons]
    unfold segW
    simp only [h109, h108, h113, h104]
    generalize dB w = x
    match x with
    | [] => simp [segL]
    | a :: b :: t => simp [segL]
    | [b] =>
      have e : segL ([b] :: r.map dB) = match letter b with
          | none => none
          | some (k, n) => match numsL n (r.map dB) with
            | none => none
            | some (zs, q) => some (mkSeg k zs, q) := rfl
      rw [e]
      unfold letter
      simp only [List.cons.injEq, and_true]
      by_cases a1 : b = 109
      · rw [if_pos a1, if_pos a1]; simp only [numsL_B]; cases numsB 2 r <;> rfl
      · rw [if_neg a1, if_neg a1]
        by_cases a2 : b = 108
        · rw [if_pos a2, if_pos a2]; simp only [numsL_B]; cases numsB 2 r <;> rfl
        · rw [if_neg a2, if_neg a2]
          by_cases a3 : b = 113
          · rw [if_pos a3, if_pos a3]; simp only [numsL_B]; cases numsB 5 r <;> rfl
          · rw [if_neg a3, if_neg a3]
            by_cases a4 : b = 104
            · rw [if_pos a4, if_pos a4]; rfl
            · rw [if_neg a4, if_neg a4]; rfl
theorem parL_B : ∀ (f : Nat) (bs : List ByteArray), parL f (bs.map dB) = parseF f bs
  | 0, [] => rfl
  | _ + 1, [] => rfl
  | 0, _ :: _ => rfl
  | f + 1, b :: r => by
    have e1 : parL (f + 1) ((b :: r).map dB) = match segL ((b :: r).map dB) with
        | none => none
        | some (s, q) => (parL f q).map (s :: ·) := rfl
    have e2 : parseF (f + 1) (b :: r) = match segW (b :: r) with
        | none => none
        | some (s, q) => (parseF f q).map (s :: ·) := rfl
    rw [e1, e2, segL_B]
    cases segW (b :: r) with
    | none => rfl
    | some p => obtain ⟨s, q⟩ := p; show (parL f (q.map dB)).map _ = _; rw [parL_B f q]
theorem numsL_le : ∀ (k : Nat) (ws : List (List UInt8)) (zs : List Int) (q : List (List UInt8)), numsL k ws = some (zs, q) → q.length ≤ ws.length
  | 0, ws, zs, q, h => by cases h; exact Nat.le_refl _
  | _ + 1, [], _, _, h => by cases h
  | k + 1, w :: ws, zs, q, h => by
    rw [numsL] at h
    cases hn : numL w with
    | none => rw [hn] at h; cases h
    | some z =>
      rw [hn] at h
      cases hm : numsL k ws with
      | none => rw [hm] at h; cases h
      | some p =>
        obtain ⟨ys, r⟩ := p
        rw [hm] at h
        cases h
        have := numsL_le k ws ys q hm
        simp; omega
theorem segL_lt {ws q : List (List UInt8)} {s : Sg} (h : segL ws = some (s, q)) : q.length < ws.length := by
  match ws, h with
  | [b] :: r, h =>
    have e : segL ([b] :: r) = match letter b with
        | none => none
        | some (k, n) => match numsL n r with
          | none => none
          | some (zs, q) => some (mkSeg k zs, q) := rfl
    rw [e] at h
    cases hl : letter b with
    | none => rw [hl] at h; cases h
    | some p =>
      obtain ⟨k, n⟩ := p
      rw [hl] at h
      cases hm : numsL n r with
      | none => simp only [hm] at h; cases h
      | some p =>
        obtain ⟨zs, q'⟩ := p
        simp only [hm] at h
        cases h
        have := numsL_le n r zs q hm
        simp; omega
theorem parL_more : ∀ (f g : Nat) (ws : List (List UInt8)), ws.length ≤ f → ws.length ≤ g → parL f ws = parL g ws
  | f, g, [], _, _ => by cases f <;> cases g <;> rfl
  | f + 1, g + 1, w :: r, hf, hg => by
    show (match segL (w :: r) with | none => none | some (s, q) => (parL f q).map (s :: ·)) = (match segL (w :: r) with | none => none | some (s, q) => (parL g q).map (s :: ·))
    cases h : segL (w :: r) with
    | none => rfl
    | some p =>
      obtain ⟨s, q⟩ := p
      have hl := segL_lt h
      show (parL f q).map _ = (parL g q).map _
      rw [parL_more f g q (by omega) (by omega)]
theorem wo_length : ∀ l : List UInt8, (wo l).length ≤ l.length + 1
  | [] => Nat.le_refl _
  | b :: r => by
    have ih := wo_length r
    unfold wo
    split
    · simp; omega
    · split
      · rename_i h; rw [h] at ih; simp at ih ⊢; omega
      · simp
/-- Parse's answer, read by places. -/
theorem parseB_places (s : ByteArray) (h : 0 < s.size) : parseB s = parR (dB s) ((dB s).length + 1) 0 := by
  unfold parseB
  rw [if_neg (by omega), ← parL_B, wordsB_data]
  have hl : (wordsB s).length = (wo (dB s)).length := by rw [← wordsB_data]; simp
  rw [par_eq _ 0 (by show 0 < s.data.toList.length; have : s.size = s.data.size := rfl; simp; omega), List.drop_zero, hl]
  exact parL_more _ _ _ (Nat.le_refl _) (wo_length _)
theorem numsR_le {l : List UInt8} : ∀ (k a : Nat) (zs : List Int) (e : Nat), numsR l k a = some (zs, e) → a ≤ e
  | 0, a, zs, e, h => by cases h; exact Nat.le_refl _
  | k + 1, a, zs, e, h => by
    rw [numsR] at h
    split at h
    · rename_i hc
      cases hd : digS l (a + 1) with
      | none => rw [hd] at h; cases h
      | some p =>
        obtain ⟨n, nx⟩ := p
        rw [hd] at h
        have h1 := (digS_le hd (by omega)).1
        cases hm : numsR l k nx with
        | none => simp only [hm] at h; cases h
        | some p =>
          obtain ⟨ys, e'⟩ := p
          simp only [hm] at h
          cases h
          have := numsR_le k nx ys e hm
          omega
    · cases h

end Go.Proofs.YtijkoaggcmgjiabDoor
