/- The words of a text, and numbers as words, without a program. -/
import Derived.Test.YtijkoaggcmgjiabDoorWords
import Derived.Lib.SplitLaws
import Derived.Lib.AtoiTie
import Derived.Lib.AtoiAllCases
namespace Go.Proofs.YtijkoaggcmgjiabDoor
open Go
set_option linter.unusedVariables false
set_option linter.unusedSimpArgs false

/-- The pieces between spaces. -/
def wo : List UInt8 → List (List UInt8)
  | [] => [[]]
  | b :: r => if b = 32 then [] :: wo r else match wo r with
    | h :: t => (b :: h) :: t
    | [] => [[b]]
theorem wo_ne : ∀ l, wo l ≠ []
  | [] => by simp [wo]
  | b :: r => by
    unfold wo
    split
    · simp
    · split <;> simp
theorem wo_space (r : List UInt8) : wo (32 :: r) = [] :: wo r := by rw [wo, if_pos rfl]
theorem wo_cons {b : UInt8} {r h : List UInt8} {t : List (List UInt8)} (hb : b ≠ 32) (e : wo r = h :: t) : wo (b :: r) = (b :: h) :: t := by
  rw [wo, if_neg hb, e]
theorem index_cons (b : UInt8) (r : List UInt8) : Lib.index (b :: r) [32] = if b = 32 then 0 else if Lib.index r [32] == -1 then -1 else Lib.index r [32] + 1 := by
  rw [Lib.index]
  by_cases h : b = 32
  · subst h; simp
  · rw [if_neg h, if_neg]
    simp only [List.isPrefixOf, Bool.and_true]
    intro k
    exact h (beq_iff_eq.1 k).symm
theorem index_no : ∀ l : List UInt8, l.count 32 = 0 → Lib.index l [32] = -1
  | [], _ => rfl
  | b :: r, h => by
    have hb : b ≠ 32 := fun e => by subst e; simp at h
    have hr : r.count 32 = 0 := by rwa [List.count_cons_of_ne hb] at h
    rw [index_cons, if_neg hb, index_no r hr]
    rfl
theorem index_yes : ∀ l : List UInt8, 0 < l.count 32 → 0 ≤ Lib.index l [32]
  | [], h => by simp at h
  | b :: r, h => by
    rw [index_cons]
    split
    · exact Int.le_refl _
    · rename_i hb
      have hr := index_yes r (by rwa [List.count_cons_of_ne hb] at h)
      have : ¬ (Lib.index r [32] == -1) = true := fun e => by have := beq_iff_eq.1 e; omega
      rw [if_neg this]
      omega
theorem splitK_wo : ∀ (l : List UInt8) (k : Nat), l.count 32 = k → Lib.splitK [32] 0 k l = wo l
  | [], k, h => by
    obtain rfl : k = 0 := by simpa using h.symm
    rfl
  | b :: r, k, h => by
    by_cases hb : b = 32
    · subst hb
      obtain ⟨k', rfl⟩ : ∃ k', k = k' + 1 := ⟨r.count 32, by rw [← h]; simp⟩
      have hr : r.count 32 = k' := by simpa using h
      rw [wo_space, Lib.splitK, index_cons, if_pos rfl, if_neg (by decide)]
      show [] :: Lib.splitK [32] 0 k' r = _
      rw [splitK_wo r k' hr]
    · have hr : r.count 32 = k := by rwa [List.count_cons_of_ne hb] at h
      have ih := splitK_wo r k hr
      cases k with
      | zero =>
        have e : wo r = [r] := by rw [← ih]; rfl
        rw [wo_cons hb e]
        rfl
      | succ k =>
        have hi := index_yes r (by omega)
        have hne : ¬ (Lib.index r [32] == -1) = true := fun e => by have := beq_iff_eq.1 e; omega
        rw [Lib.splitK, if_neg hne] at ih
        rw [wo_cons hb ih.symm, Lib.splitK, index_cons, if_neg hb, if_neg hne, if_neg (fun e => by have := beq_iff_eq.1 e; omega)]
        obtain ⟨i, hi'⟩ : ∃ i : Nat, Lib.index r [32] = i := ⟨(Lib.index r [32]).toNat, by omega⟩
        rw [hi']
        have e1 : ((i : Int) + 1).toNat + 0 = i + 1 := by omega
        have e2 : ((i : Int)).toNat + 0 = i := by omega
        have e3 : ((i : Int) + 1).toNat + [(32 : UInt8)].length = i + 1 + 1 := by simp
        have e4 : ((i : Int)).toNat + [(32 : UInt8)].length = i + 1 := by simp
        rw [e1, e2, e3, e4]
        rfl
theorem split_wo (l : List UInt8) : Lib.split l [32] = wo l := splitK_wo l _ (Lib.count_one 32 l).symm
/-- What strings.Split leaves. -/
def wordsB (s : ByteArray) : List ByteArray := Lib.splitB ⟨#[32]⟩ 0 (Lib.countB s ⟨#[32]⟩) s
theorem wordsB_data (s : ByteArray) : (wordsB s).map (·.data.toList) = wo s.data.toList := by
  unfold wordsB
  rw [Lib.splitB_data]
  exact split_wo _
theorem wordsB_length (s : ByteArray) : (wordsB s).length = Lib.countB s ⟨#[32]⟩ + 1 := Lib.splitB_all ⟨#[32]⟩ (by decide) 0 _ s rfl

theorem wo_piece : ∀ (p l : List UInt8), (32 : UInt8) ∉ p → wo (p ++ 32 :: l) = p :: wo l
  | [], l, _ => wo_space l
  | b :: p, l, h => wo_cons (fun e => h (by simp [e])) (wo_piece p l fun k => h (by simp [k]))
theorem wo_last : ∀ (p : List UInt8), (32 : UInt8) ∉ p → wo p = [p]
  | [], _ => rfl
  | b :: p, h => wo_cons (fun e => h (by simp [e])) (wo_last p fun k => h (by simp [k]))
theorem wo_join : ∀ (ps : List (List UInt8)), ps ≠ [] → (∀ p ∈ ps, (32 : UInt8) ∉ p) → wo (Lib.join ps [32]) = ps
  | [p], _, h => by
    rw [Lib.join_one]
    exact wo_last p (h p (by simp))
  | p :: q :: r, _, h => by
    have ih := wo_join (q :: r) (by simp) fun x hx => h x (by simp [hx])
    rw [Lib.join_cons] at ih ⊢
    rw [show Lib.joinTail [32] (q :: r) = 32 :: (q ++ Lib.joinTail [32] r) by simp [Lib.joinTail]]
    rw [wo_piece p _ (h p (by simp)), ih]

/-! ### numbers -/
theorem digit_no (u : Nat) : (32 : UInt8) ≠ UInt8.ofNat (48 + u % 10) := by
  intro e
  have h1 : (UInt8.ofNat (48 + u % 10)).toNat = 48 + u % 10 := by simp; omega
  rw [← e] at h1
  have : (32 : UInt8).toNat = 32 := rfl
  omega
theorem digits_no : ∀ (n u : Nat), u ≤ n → (32 : UInt8) ∉ Lib.decDigits u
  | n, u, hu => by
    rw [Lib.decDigits]
    split
    · rename_i h
      rw [List.mem_singleton]
      have := digit_no u
      rwa [Nat.mod_eq_of_lt h] at this
    · rename_i h
      rw [List.mem_append, List.mem_singleton, not_or]
      match n, hu with
      | 0, hu => omega
      | n + 1, hu => exact ⟨digits_no n (u / 10) (by omega), digit_no u⟩
theorem itoa_no (z : Int) : (32 : UInt8) ∉ Lib.itoa z := by
  unfold Lib.itoa
  split
  · rw [List.mem_cons, not_or]
    exact ⟨by decide, digits_no _ _ (Nat.le_refl _)⟩
  · exact digits_no _ _ (Nat.le_refl _)
theorem digitVal_of (u : Nat) : Lib.digitVal (UInt8.ofNat (48 + u % 10)) = some (u % 10) := by
  have h1 : (UInt8.ofNat (48 + u % 10)).toNat = 48 + u % 10 := by simp; omega
  unfold Lib.digitVal
  rw [h1, if_pos (by omega)]
  congr 1
  omega
theorem decFrom_app : ∀ (l : List UInt8) (acc m : Nat) (b : UInt8) (d : Nat), Lib.decFrom acc l = some m → Lib.digitVal b = some d → Lib.decFrom acc (l ++ [b]) = some (m * 10 + d)
  | [], acc, m, b, d, h, hd => by
    obtain rfl : acc = m := by simpa [Lib.decFrom] using h
    simp [Lib.decFrom, hd]
  | c :: l, acc, m, b, d, h, hd => by
    rw [List.cons_append]
    unfold Lib.decFrom at h ⊢
    cases hc : Lib.digitVal c with
    | none => rw [hc] at h; cases h
    | some e =>
      rw [hc] at h
      exact decFrom_app l _ m b d h hd
theorem decFrom_digits : ∀ (n u : Nat), u ≤ n → Lib.decFrom 0 (Lib.decDigits u) = some u
  | n, u, hu => by
    rw [Lib.decDigits]
    split
    · rename_i h
      have := digitVal_of u
      rw [Nat.mod_eq_of_lt h] at this
      unfold Lib.decFrom
      rw [this]
      simp [Lib.decFrom]
    · rename_i h
      match n, hu with
      | 0, hu => omega
      | n + 1, hu =>
        rw [decFrom_app _ 0 _ _ _ (decFrom_digits n (u / 10) (by omega)) (digitVal_of u)]
        congr 1
        omega
theorem decDigits_ne (u : Nat) : Lib.decDigits u ≠ [] := by
  rw [Lib.decDigits]
  split <;> simp
theorem decNat_digits (u : Nat) : Lib.decNat (Lib.decDigits u) = some u := by
  unfold Lib.decNat
  rw [if_neg (by simp [decDigits_ne]), decFrom_digits u u (Nat.le_refl _)]
theorem decDigits_head (u : Nat) : ∃ b r, Lib.decDigits u = b :: r ∧ 48 ≤ b.toNat := by
  cases h : Lib.decDigits u with
  | nil => exact absurd h (decDigits_ne u)
  | cons b r =>
    refine ⟨b, r, rfl, ?_⟩
    have := decFrom_digits u u (Nat.le_refl _)
    rw [h] at this
    obtain ⟨d, hd⟩ := Lib.digit_of_decFrom _ _ _ this 0 b rfl
    exact (Lib.digitVal_eq hd).1
theorem atoi_itoa (z : Int) : Lib.atoi (Lib.itoa z) = some z := by
  unfold Lib.itoa
  split
  · rename_i h
    show (if ((45 : UInt8) == 45) = true then (Lib.decNat (Lib.decDigits z.natAbs)).map (fun (m : Nat) => -(m : Int)) else (none : Option Int)) = _
    rw [if_pos (show ((45 : UInt8) == 45) = true from rfl), decNat_digits]
    simp only [Option.map_some]
    congr 1
    omega
  · rename_i h
    obtain ⟨b, r, e, hb⟩ := decDigits_head z.toNat
    have e1 : ¬ (b == 45) = true := fun k => by rw [beq_iff_eq.1 k] at hb; exact absurd hb (by decide)
    have e2 : ¬ (b == 43) = true := fun k => by rw [beq_iff_eq.1 k] at hb; exact absurd hb (by decide)
    rw [e]
    show (if (b == 45) = true then (Lib.decNat r).map (fun (m : Nat) => -(m : Int)) else if (b == 43) = true then (Lib.decNat r).map (fun (m : Nat) => (m : Int)) else (Lib.decNat (b :: r)).map (fun (m : Nat) => (m : Int))) = _
    rw [if_neg e1, if_neg e2, ← e, decNat_digits]
    simp only [Option.map_some]
    congr 1
    omega
theorem decDigits_len : ∀ (k u : Nat), u < 10 ^ (k + 1) → (Lib.decDigits u).length ≤ k + 1
  | 0, u, h => by rw [Lib.decDigits, dif_pos (by simpa using h)]; simp
  | k + 1, u, h => by
    rw [Lib.decDigits]
    split
    · simp
    · have := decDigits_len k (u / 10) (by rw [Nat.pow_succ] at h; omega)
      simp
      omega
theorem itoa_len5 {z : Int} (h : -99999 ≤ z ∧ z ≤ 99999) : (Lib.itoa z).length ≤ 6 := by
  unfold Lib.itoa
  split
  · have := decDigits_len 4 z.natAbs (by omega)
    simp
    omega
  · have := decDigits_len 4 z.toNat (by omega)
    omega
theorem itoa_len4 {z : Int} (h : 0 ≤ z ∧ z ≤ 9999) : (Lib.itoa z).length ≤ 4 := by
  unfold Lib.itoa
  rw [if_neg (by omega)]
  have := decDigits_len 3 z.toNat (by omega)
  omega

/-! ### how long a valid path's text is -/
theorem segT_len {s : Sg} (h : Okay s) : (segT s).length ≤ 34 ∧ (s.k = 1 → (segT s).length ≤ 15) := by
  have hr := wi4.1 h.r
  have hx := itoa_len5 (z := s.x) (by omega)
  have hy := itoa_len5 (z := s.y) (by omega)
  have hu := itoa_len5 (z := s.u) (by omega)
  have hv := itoa_len5 (z := s.v) (by omega)
  have w2 : ∀ k : UInt8, (words k [s.x, s.y]).length ≤ 15 := fun k => by simp [words]; omega
  have hk := h.k
  unfold segT
  by_cases h1 : s.k = 1
  · rw [if_pos h1]; have := w2 109; exact ⟨by omega, fun _ => this⟩
  · rw [if_neg h1]
    refine ⟨?_, fun k => absurd k h1⟩
    split
    · have := w2 108; omega
    · split
      · rename_i h3
        have hw := itoa_len4 (z := s.w) (by have := h.w h3; omega)
        simp [words]
        omega
      · simp
theorem textOf_len {ss : List Sg} (h : chk ss = 0) (hf : 0 < ss.length → ∃ s r, ss = s :: r ∧ s.k = 1) : (textOf ss).length ≤ 34980 := by
  have hle := chk_le h
  have hk := chk_okay h
  cases ss with
  | nil => simp [textOf, Lib.join_nil]
  | cons s r =>
    obtain ⟨s', r', e, h1⟩ := hf (by simp)
    injection e with e1 e2
    subst e1
    have hs := (segT_len (hk s (by simp))).2 h1
    have hr := lens_le 34 (r.map segT) fun x hx => by
      obtain ⟨g, hg, rfl⟩ := List.mem_map.1 hx
      exact (segT_len (hk g (by simp [hg]))).1
    have hlen : (textOf (s :: r)).length = Lib.lens ((s :: r).map segT) + r.length := by
      unfold textOf
      rw [List.map_cons, Lib.join_length]
      simp
      omega
    rw [hlen, List.map_cons, show Lib.lens (segT s :: r.map segT) = (segT s).length + Lib.lens (r.map segT) by simp [Lib.lens]]
    simp only [List.length_cons, List.length_map] at hle hr
    omega

end Go.Proofs.YtijkoaggcmgjiabDoor
