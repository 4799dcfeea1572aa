/- The text of a path, without a program: its words, how long they are, what a valid path's segments hold. -/
import Derived.Test.YtijkoaggcmgjiabDoorChk
import Derived.Lib.Join
import Derived.Lib.ItoaLen
namespace Go.Proofs.YtijkoaggcmgjiabDoor
open Go
set_option linter.unusedVariables false

/-- A kind's letter and, each behind a space, numbers. -/
def words (k : UInt8) (zs : List Int) : List UInt8 := k :: zs.flatMap fun z => 32 :: Lib.itoa z
def segT (s : Sg) : List UInt8 :=
  if s.k = 1 then words 109 [s.x, s.y] else if s.k = 2 then words 108 [s.x, s.y] else if s.k = 3 then words 113 [s.u, s.v, s.x, s.y, s.w] else [104]
def textOf (ss : List Sg) : List UInt8 := Lib.join (ss.map segT) [32]
def segB (s : Sg) : ByteArray := ⟨(segT s).toArray⟩
theorem segB_list (s : Sg) : (segB s).data.toList = segT s := by simp [segB]

def I64 (z : Int) : Prop := -9223372036854775808 ≤ z ∧ z ≤ 9223372036854775807
theorem words_take (k : UInt8) (zs : List Int) (j : Nat) (h : j < zs.length) : words k (zs.take (j + 1)) = words k (zs.take j) ++ (32 :: Lib.itoa zs[j]) := by
  unfold words
  rw [List.take_succ_eq_append_getElem h, List.flatMap_append]
  simp
theorem words_length (k : UInt8) : ∀ (zs : List Int), (∀ z ∈ zs, I64 z) → (words k zs).length ≤ 1 + 22 * zs.length
  | [], _ => by simp [words]
  | z :: r, h => by
    have h1 := words_length k r fun y hy => h y (by simp [hy])
    have hz : I64 z := h z (by simp)
    have h2 := Lib.itoa_length_le z hz.1 hz.2
    have e : words k (z :: r) = k :: ((32 :: Lib.itoa z) ++ r.flatMap fun z => 32 :: Lib.itoa z) := rfl
    rw [e]
    simp only [words, List.length_cons, List.length_append] at h1 ⊢
    omega

/-- The fields are 64 bits wide. -/
def Fit (s : Sg) : Prop := I64 s.x ∧ I64 s.y ∧ I64 s.u ∧ I64 s.v ∧ I64 s.w
theorem segT_length (s : Sg) (h : Fit s) : (segT s).length ≤ 111 := by
  obtain ⟨hx, hy, hu, hv, hw⟩ := h
  have two : ∀ z ∈ [s.x, s.y], I64 z := fun z hz => by
    rcases List.mem_cons.1 hz with rfl | hz
    · exact hx
    · rcases List.mem_cons.1 hz with rfl | hz
      · exact hy
      · cases hz
  have five : ∀ z ∈ [s.u, s.v, s.x, s.y, s.w], I64 z := fun z hz => by
    simp only [List.mem_cons, List.not_mem_nil, or_false] at hz
    rcases hz with rfl | rfl | rfl | rfl | rfl <;> assumption
  unfold segT
  split
  · have := words_length 109 _ two; simp at this; omega
  · split
    · have := words_length 108 _ two; simp at this; omega
    · split
      · have := words_length 113 _ five; simp at this; omega
      · simp

theorem lens_le (c : Nat) : ∀ (l : List (List UInt8)), (∀ x ∈ l, x.length ≤ c) → Lib.lens l ≤ c * l.length
  | [], _ => by simp [Lib.lens]
  | x :: r, h => by
    have h1 := lens_le c r fun y hy => h y (by simp [hy])
    have h2 := h x (by simp)
    have e : Lib.lens (x :: r) = x.length + Lib.lens r := by simp [Lib.lens]
    rw [e, List.length_cons, Nat.mul_add]
    omega
theorem join_le (c : Nat) (l : List (List UInt8)) (h : ∀ x ∈ l, x.length ≤ c) : (Lib.join l [32]).length ≤ (c + 1) * l.length := by
  cases l with
  | nil => simp [Lib.join_nil]
  | cons x r =>
    rw [Lib.join_length]
    have h1 := lens_le c (x :: r) h
    rw [Nat.add_mul]
    simp only [List.length_cons, List.length_nil] at h1 ⊢
    omega
theorem textOf_length (ss : List Sg) (h : ∀ s ∈ ss, Fit s) : (textOf ss).length ≤ 112 * ss.length := by
  have := join_le 111 (ss.map segT) fun x hx => by
    obtain ⟨s, hs, rfl⟩ := List.mem_map.1 hx
    exact segT_length s (h s hs)
  simpa [textOf] using this

/-! ### what a valid path's segments hold -/
/-- A segment that stands in a valid path. -/
structure Okay (s : Sg) : Prop where
  k : 1 ≤ s.k ∧ s.k ≤ 4
  m : s = mean s
  r : Wi 32767 [s.x, s.y, s.u, s.v]
  w : s.k = 3 → 16 ≤ s.w ∧ s.w ≤ 4096
theorem okay_of {s : Sg} {o : Bool} (h : chkSeg s o = 0) : Okay s ∧ (o = true ∨ s.k = 1) := by
  unfold chkSeg at h
  split at h
  · cases h
  · split at h
    · cases h
    · split at h
      · cases h
      · split at h
        · cases h
        · split at h
          · cases h
          · rename_i h1 h2 h3 h4 h5
            refine ⟨⟨by omega, Classical.byContradiction fun e => h3 e, Classical.byContradiction fun e => h4 e, fun e => by
              have := fun f => h5 ⟨e, f⟩
              omega⟩, ?_⟩
            cases o
            · exact .inr (Classical.byContradiction fun e => h2 ⟨rfl, e⟩)
            · exact .inl rfl
theorem Okay.fit {s : Sg} (h : Okay s) : Fit s := by
  obtain ⟨hk, hm, hr, hw⟩ := h
  have hr' := wi4.1 hr
  refine ⟨⟨by omega, by omega⟩, ⟨by omega, by omega⟩, ⟨by omega, by omega⟩, ⟨by omega, by omega⟩, ?_⟩
  by_cases e : s.k = 3
  · have := hw e; exact ⟨by omega, by omega⟩
  · have : s.w = (mean s).w := congrArg Sg.w hm
    have h0 : (mean s).w = 0 := by
      unfold mean
      rw [if_neg e]
      split <;> rfl
    exact ⟨by omega, by omega⟩
theorem chkAll_okay : ∀ {ss : List Sg} {o : Bool}, chkAll o ss = 0 → ∀ s ∈ ss, Okay s
  | s :: r, o, h, g, hg => by
    rw [chkAll] at h
    split at h
    · rename_i h0
      rcases List.mem_cons.1 hg with rfl | hg
      · exact (okay_of h0).1
      · exact chkAll_okay h g hg
    · rename_i h0; exact absurd h h0
theorem chk_all {ss : List Sg} (h : chk ss = 0) : chkAll false ss = 0 := by
  unfold chk at h
  split at h
  · cases h
  · exact h
theorem chk_okay {ss : List Sg} (h : chk ss = 0) : ∀ s ∈ ss, Okay s := chkAll_okay (chk_all h)

end Go.Proofs.YtijkoaggcmgjiabDoor
