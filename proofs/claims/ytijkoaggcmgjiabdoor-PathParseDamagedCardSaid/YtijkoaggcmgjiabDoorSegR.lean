/- A path's text read by places is what is read by words: lists alone. -/
import Derived.Test.YtijkoaggcmgjiabDoorNumR
namespace Go.Proofs.YtijkoaggcmgjiabDoor
open Go
set_option linter.unusedVariables false
set_option linter.unusedSimpArgs false

/-- A segment's kind, and how many numbers follow its letter. -/
def letter (b : UInt8) : Option (Int × Nat) := if b = 109 then some (1, 2) else if b = 108 then some (2, 2) else if b = 113 then some (3, 5) else if b = 104 then some (4, 0) else none
def mkSeg (k : Int) (zs : List Int) : Sg := if k = 3 then ⟨3, zs.getD 2 0, zs.getD 3 0, zs.getD 0 0, zs.getD 1 0, zs.getD 4 0⟩ else ⟨k, zs.getD 0 0, zs.getD 1 0, 0, 0, 0⟩
/-- A segment of words. -/
def segL : List (List UInt8) → Option (Sg × List (List UInt8))
  | [b] :: r => match letter b with
    | none => none
    | some (k, n) => match numsL n r with
      | none => none
      | some (zs, q) => some (mkSeg k zs, q)
  | _ => none
/-- A segment by places. -/
def segR (l : List UInt8) (a : Nat) : Option (Sg × Nat) := match letter (byteAt l a) with
  | none => none
  | some (k, n) => match numsR l n (a + 1) with
    | none => none
    | some (zs, e) => some (mkSeg k zs, e)
def parL : Nat → List (List UInt8) → Option (List Sg)
  | _, [] => some []
  | 0, _ :: _ => none
  | f + 1, w :: r => match segL (w :: r) with
    | none => none
    | some (s, q) => (parL f q).map (s :: ·)
def parR (l : List UInt8) : Nat → Nat → Option (List Sg)
  | 0, _ => none
  | f + 1, a => match segR l a with
    | none => none
    | some (g, e) => if e = l.length then some [g] else if byteAt l e ≠ 32 ∨ e + 1 = l.length then none else (parR l f (e + 1)).map (g :: ·)
theorem drop_byte {l : List UInt8} {a : Nat} (h : a < l.length) : l.drop a = byteAt l a :: l.drop (a + 1) := by
  rw [List.drop_eq_getElem_cons h]
  unfold byteAt
  rw [List.getD_eq_getElem?_getD, List.getElem?_eq_getElem h]
  rfl
theorem letter_space : letter 32 = none := by decide
theorem first_letter {l : List UInt8} {a : Nat} (h : a < l.length) (hb : byteAt l a ≠ 32) (hB : Bd l (a + 1)) : wo (l.drop a) = [byteAt l a] :: tailW l (a + 1) := by
  rw [drop_byte h]
  unfold tailW
  rcases hB with e | ⟨h1, e⟩
  · rw [if_neg (by omega), List.drop_eq_nil_of_le (by omega)]
    exact wo_cons hb rfl
  · rw [if_pos h1, drop_byte h1, e]
    exact wo_cons hb (wo_space _)
theorem first_long {l : List UInt8} {a : Nat} (h : a < l.length) (hb : byteAt l a ≠ 32) (hB : ¬ Bd l (a + 1)) : segL (wo (l.drop a)) = none := by
  have h1 : a + 1 < l.length := by
    rcases Nat.lt_or_ge (a + 1) l.length with e | e
    · exact e
    · exact absurd (.inl (by omega)) hB
  have hx : byteAt l (a + 1) ≠ 32 := fun e => hB (.inr ⟨h1, e⟩)
  rw [drop_byte h, drop_byte h1]
  cases hw : wo (l.drop (a + 1 + 1)) with
  | nil => exact absurd hw (wo_ne _)
  | cons w t =>
    rw [wo_cons hb (wo_cons hx hw)]
    rfl
theorem seg_eq {l : List UInt8} {a : Nat} (h : a < l.length) : match segR l a with
    | some (g, e) => (Bd l e → segL (wo (l.drop a)) = some (g, tailW l e)) ∧ (¬ Bd l e → segL (wo (l.drop a)) = none) ∧ e ≤ l.length
    | none => segL (wo (l.drop a)) = none := by
  unfold segR
  cases hL : letter (byteAt l a) with
  | none =>
    show segL (wo (l.drop a)) = none
    by_cases hb : byteAt l a = 32
    · rw [drop_byte h, hb, wo_space]; rfl
    · rw [drop_byte h]
      cases hw : wo (l.drop (a + 1)) with
      | nil => exact absurd hw (wo_ne _)
      | cons w t =>
        rw [wo_cons hb hw]
        cases w with
        | nil => show (match letter (byteAt l a) with | none => none | some (k, n) => _) = none; rw [hL]
        | cons x w => rfl
  | some p =>
    obtain ⟨k, n⟩ := p
    have hb : byteAt l a ≠ 32 := fun e => by rw [e, letter_space] at hL; cases hL
    by_cases hB : Bd l (a + 1)
    · have hwo := first_letter h hb hB
      have hn := nums_eq n (a + 1) hB
      have hseg : segL (wo (l.drop a)) = match numsL n (tailW l (a + 1)) with
          | none => none
          | some (zs, q) => some (mkSeg k zs, q) := by
        rw [hwo]
        show (match letter (byteAt l a) with | none => none | some (k, n) => _) = _
        rw [hL]
      rw [hseg]
      show match (match numsR l n (a + 1) with | none => none | some (zs, e) => some (mkSeg k zs, e)) with
        | some (g, e) => _
        | none => _
      cases hR : numsR l n (a + 1) with
      | none => rw [hR] at hn; simp only at hn ⊢; rw [hn]
      | some q =>
        obtain ⟨zs, e⟩ := q
        rw [hR] at hn
        obtain ⟨n1, n2, n3⟩ := hn
        exact ⟨fun hB => by rw [n1 hB], fun hB => by rw [n2 hB], n3⟩
    · have hno := first_long h hb hB
      rw [hno]
      show match (match numsR l n (a + 1) with | none => none | some (zs, e) => some (mkSeg k zs, e)) with
        | some (g, e) => _
        | none => _
      cases n with
      | zero => exact ⟨fun hc => absurd hc hB, fun _ => rfl, by show a + 1 ≤ _; omega⟩
      | succ n =>
        have hR : numsR l (n + 1) (a + 1) = none := by
          rw [numsR, if_neg fun hc => hB (.inr hc)]
        rw [hR]
theorem par_eq {l : List UInt8} : ∀ (f a : Nat), a < l.length → parR l f a = parL f (wo (l.drop a))
  | 0, a, h => by
    cases hw : wo (l.drop a) with
    | nil => exact absurd hw (wo_ne _)
    | cons w t => rfl
  | f + 1, a, h => by
    have hs := seg_eq h
    have hp : parL (f + 1) (wo (l.drop a)) = match segL (wo (l.drop a)) with
        | none => none
        | some (s, q) => (parL f q).map (s :: ·) := by
      cases hw : wo (l.drop a) with
      | nil => exact absurd hw (wo_ne _)
      | cons w t => rfl
    rw [hp, parR]
    cases hR : segR l a with
    | none => rw [hR] at hs; simp only at hs ⊢; rw [hs]
    | some q =>
      obtain ⟨g, e⟩ := q
      rw [hR] at hs
      obtain ⟨s1, s2, s3⟩ := hs
      simp only
      by_cases hB : Bd l e
      · rw [s1 hB]
        simp only
        unfold tailW
        rcases hB with he | ⟨he, hb⟩
        · rw [if_pos he, if_neg (by omega)]
          cases f <;> rfl
        · rw [if_neg (by omega), if_pos he]
          by_cases hl : e + 1 = l.length
          · rw [if_pos (.inr hl), List.drop_eq_nil_of_le (by omega)]
            cases f <;> rfl
          · rw [if_neg (by rintro (x | x); exact x hb; exact hl x), par_eq f (e + 1) (by omega)]
      · rw [s2 hB, if_neg (fun x => hB (.inl x)), if_pos (.inl fun x => hB (.inr ⟨by have : e ≠ l.length := fun y => hB (.inl y); omega, x⟩))]

end Go.Proofs.YtijkoaggcmgjiabDoor
