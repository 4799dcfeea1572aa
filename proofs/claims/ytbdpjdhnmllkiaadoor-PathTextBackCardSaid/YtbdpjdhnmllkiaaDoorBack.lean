/- The text of a valid path is parsed as it was. -/
import Derived.Test.YtbdpjdhnmllkiaaDoorParse
import Derived.Test.YtbdpjdhnmllkiaaDoorRevQ
namespace Go.Proofs.YtbdpjdhnmllkiaaDoor
open Go Go.RowKit Go.WideShapes
set_option linter.unusedVariables false
set_option linter.unusedSimpArgs false

/-- The words of a segment. -/
def wds (s : Sg) : List (List UInt8) :=
  if s.k = 1 then [[109], Lib.itoa s.x, Lib.itoa s.y] else if s.k = 2 then [[108], Lib.itoa s.x, Lib.itoa s.y]
  else if s.k = 3 then [[113], Lib.itoa s.u, Lib.itoa s.v, Lib.itoa s.x, Lib.itoa s.y, Lib.itoa s.w] else [[104]]
theorem join_more (p q : List UInt8) (r : List (List UInt8)) : Lib.join (p :: q :: r) [32] = p ++ 32 :: Lib.join (q :: r) [32] := by
  rw [Lib.join_cons, Lib.join_cons]
  simp [Lib.joinTail]
theorem segT_wds (s : Sg) : segT s = Lib.join (wds s) [32] := by
  unfold segT wds
  by_cases h1 : s.k = 1
  · rw [if_pos h1, if_pos h1]; simp [words, join_more, Lib.join_one]
  · rw [if_neg h1, if_neg h1]
    by_cases h2 : s.k = 2
    · rw [if_pos h2, if_pos h2]; simp [words, join_more, Lib.join_one]
    · rw [if_neg h2, if_neg h2]
      by_cases h3 : s.k = 3
      · rw [if_pos h3, if_pos h3]; simp [words, join_more, Lib.join_one]
      · rw [if_neg h3, if_neg h3, Lib.join_one]
theorem wds_no (s : Sg) : ∀ p ∈ wds s, (32 : UInt8) ∉ p := by
  intro p hp
  have hi := itoa_no
  unfold wds at hp
  split at hp
  · simp only [List.mem_cons, List.not_mem_nil, or_false] at hp
    rcases hp with rfl | rfl | rfl
    · decide
    · exact hi _
    · exact hi _
  · split at hp
    · simp only [List.mem_cons, List.not_mem_nil, or_false] at hp
      rcases hp with rfl | rfl | rfl
      · decide
      · exact hi _
      · exact hi _
    · split at hp
      · simp only [List.mem_cons, List.not_mem_nil, or_false] at hp
        rcases hp with rfl | rfl | rfl | rfl | rfl | rfl
        · decide
        · exact hi _
        · exact hi _
        · exact hi _
        · exact hi _
        · exact hi _
      · simp only [List.mem_cons, List.not_mem_nil, or_false] at hp
        subst hp
        decide
theorem wds_ne (s : Sg) : wds s ≠ [] := by
  unfold wds
  split
  · simp
  · split
    · simp
    · split <;> simp
theorem wo_pre (l : List UInt8) : ∀ ws : List (List UInt8), ws ≠ [] → (∀ p ∈ ws, (32 : UInt8) ∉ p) → wo (Lib.join ws [32] ++ 32 :: l) = ws ++ wo l
  | [p], _, h => by rw [Lib.join_one]; exact wo_piece p l (h p (by simp))
  | p :: q :: r, _, h => by
    rw [join_more, List.append_assoc, List.cons_append, wo_piece p _ (h p (by simp)), wo_pre l (q :: r) (by simp) fun x hx => h x (by simp [hx])]
    rfl
theorem wo_text : ∀ ss : List Sg, ss ≠ [] → wo (textOf ss) = ss.flatMap wds
  | [s], _ => by
    unfold textOf
    rw [List.map_cons, List.map_nil, Lib.join_one, segT_wds, wo_join _ (wds_ne s) (wds_no s)]
    simp
  | s :: g :: r, _ => by
    have e : textOf (s :: g :: r) = segT s ++ 32 :: textOf (g :: r) := by unfold textOf; simp only [List.map_cons]; exact join_more _ _ _
    rw [e, segT_wds, wo_pre _ _ (wds_ne s) (wds_no s), wo_text (g :: r) (by simp)]
    rfl

def dat (b : ByteArray) : List UInt8 := b.data.toList
theorem dat_inj {b : ByteArray} {l : List UInt8} (h : dat b = l) : b = ⟨l.toArray⟩ := (bytes_eq (by rw [← h]; rfl)).symm
theorem num_of {b : ByteArray} {z : Int} (h : dat b = Lib.itoa z) (hz : -99999 ≤ z ∧ z ≤ 99999) : numB b = some z := by
  unfold numB
  rw [show b.data.toList = Lib.itoa z from h]
  exact numL_itoa hz
theorem nums2 {b1 b2 : ByteArray} {r : List ByteArray} {x y : Int} (h1 : numB b1 = some x) (h2 : numB b2 = some y) : numsB 2 (b1 :: b2 :: r) = some ([x, y], r) := by
  unfold numsB
  rw [if_neg (by simp)]
  simp [mapN, h1, h2]
theorem nums5 {b1 b2 b3 b4 b5 : ByteArray} {r : List ByteArray} {x1 x2 x3 x4 x5 : Int} (h1 : numB b1 = some x1) (h2 : numB b2 = some x2) (h3 : numB b3 = some x3) (h4 : numB b4 = some x4) (h5 : numB b5 = some x5) :
    numsB 5 (b1 :: b2 :: b3 :: b4 :: b5 :: r) = some ([x1, x2, x3, x4, x5], r) := by
  unfold numsB
  rw [if_neg (by simp)]
  simp [mapN, h1, h2, h3, h4, h5]
theorem cons_of {bs : List ByteArray} {w : List UInt8} {ws : List (List UInt8)} (h : bs.map dat = w :: ws) : ∃ b r, bs = b :: r ∧ dat b = w ∧ r.map dat = ws := by
  cases bs with
  | nil => cases h
  | cons b r =>
    injection h with h1 h2
    exact ⟨b, r, rfl, h1, h2⟩
theorem segW_back {s : Sg} (hs : Okay s) {bs : List ByteArray} {ws : List (List UInt8)} (h : bs.map dat = wds s ++ ws) : ∃ r, segW bs = some (s, r) ∧ r.map dat = ws := by
  have hr := wi4.1 hs.r
  have hk := hs.k
  unfold wds at h
  by_cases h1 : s.k = 1
  · rw [if_pos h1] at h
    obtain ⟨b0, r0, rfl, e0, h⟩ := cons_of h
    obtain ⟨b1, r1, rfl, e1, h⟩ := cons_of h
    obtain ⟨b2, r, rfl, e2, h⟩ := cons_of h
    refine ⟨r, ?_, h⟩
    rw [dat_inj e0, segW, if_pos rfl, nums2 (num_of e1 (by omega)) (num_of e2 (by omega))]
    show some ((⟨1, s.x, s.y, 0, 0, 0⟩ : Sg), r) = _
    rw [← hs.one h1]
  · rw [if_neg h1] at h
    by_cases h2 : s.k = 2
    · rw [if_pos h2] at h
      obtain ⟨b0, r0, rfl, e0, h⟩ := cons_of h
      obtain ⟨b1, r1, rfl, e1, h⟩ := cons_of h
      obtain ⟨b2, r, rfl, e2, h⟩ := cons_of h
      refine ⟨r, ?_, h⟩
      rw [dat_inj e0, segW, if_neg (by decide), if_pos rfl, nums2 (num_of e1 (by omega)) (num_of e2 (by omega))]
      show some ((⟨2, s.x, s.y, 0, 0, 0⟩ : Sg), r) = _
      rw [← hs.two h2]
    · rw [if_neg h2] at h
      by_cases h3 : s.k = 3
      · rw [if_pos h3] at h
        have hw := hs.w h3
        obtain ⟨b0, r0, rfl, e0, h⟩ := cons_of h
        obtain ⟨b1, r1, rfl, e1, h⟩ := cons_of h
        obtain ⟨b2, r2, rfl, e2, h⟩ := cons_of h
        obtain ⟨b3, r3, rfl, e3, h⟩ := cons_of h
        obtain ⟨b4, r4, rfl, e4, h⟩ := cons_of h
        obtain ⟨b5, r, rfl, e5, h⟩ := cons_of h
        refine ⟨r, ?_, h⟩
        rw [dat_inj e0, segW, if_neg (by decide), if_neg (by decide), if_pos rfl, nums5 (num_of e1 (by omega)) (num_of e2 (by omega)) (num_of e3 (by omega)) (num_of e4 (by omega)) (num_of e5 (by omega))]
        show some ((⟨3, s.x, s.y, s.u, s.v, s.w⟩ : Sg), r) = _
        rw [show (⟨3, s.x, s.y, s.u, s.v, s.w⟩ : Sg) = s from Sg.ext' ⟨h3.symm, rfl, rfl, rfl, rfl, rfl⟩]
      · rw [if_neg h3] at h
        obtain ⟨b0, r, rfl, e0, h⟩ := cons_of h
        refine ⟨r, ?_, h⟩
        rw [dat_inj e0, segW, if_neg (by decide), if_neg (by decide), if_neg (by decide), if_pos rfl, ← hs.four (by omega)]
theorem parseF_back : ∀ (ss : List Sg) (f : Nat) (bs : List ByteArray), (∀ s ∈ ss, Okay s) → ss.length ≤ f → bs.map dat = ss.flatMap wds → parseF f bs = some ss
  | [], f, bs, _, _, h => by
    have : bs = [] := List.map_eq_nil_iff.1 h
    subst this
    cases f <;> rfl
  | s :: r, f, bs, hk, hf, h => by
    rw [List.flatMap_cons] at h
    obtain ⟨q, h1, h2⟩ := segW_back (hk s (by simp)) h
    obtain ⟨f', rfl⟩ : ∃ f', f = f' + 1 := ⟨f - 1, by simp at hf; omega⟩
    cases bs with
    | nil => cases h1
    | cons b t =>
      rw [parseF, h1]
      show (parseF f' q).map (s :: ·) = _
      rw [parseF_back r f' q (fun g hg => hk g (by simp [hg])) (by simp at hf; omega) h2]
      rfl
theorem wds_len : ∀ ss : List Sg, ss.length ≤ (ss.flatMap wds).length
  | [] => Nat.le_refl _
  | s :: r => by
    have h1 := wds_len r
    have h2 := List.length_pos_iff.2 (wds_ne s)
    rw [List.flatMap_cons, List.length_append, List.length_cons]
    omega
theorem segT_pos (s : Sg) : segT s ≠ [] := by
  unfold segT words
  split
  · simp
  · split
    · simp
    · split <;> simp
theorem parse_back {ss : List Sg} (h : chk ss = 0) : parseB ⟨(textOf ss).toArray⟩ = some ss := by
  unfold parseB
  cases hss : ss with
  | nil => rfl
  | cons s r =>
    rw [← hss]
    have hne : ss ≠ [] := by rw [hss]; simp
    have hsz : ¬ (⟨(textOf ss).toArray⟩ : ByteArray).size = 0 := by
      intro k
      have k' : (textOf ss).length = 0 := by simpa [ByteArray.size] using k
      have : textOf ss = segT s ++ Lib.joinTail [32] (r.map segT) := by rw [hss]; unfold textOf; rw [List.map_cons, Lib.join_cons]
      rw [this, List.length_append] at k'
      have := List.length_pos_iff.2 (segT_pos s)
      omega
    rw [if_neg hsz]
    have hd : (wordsB ⟨(textOf ss).toArray⟩).map dat = ss.flatMap wds := by
      rw [← wo_text ss hne]
      exact wordsB_data _
    refine parseF_back ss _ _ (chk_okay h) ?_ hd
    have := congrArg List.length hd
    rw [List.length_map] at this
    rw [this]
    exact wds_len ss
theorem pES_back {ss : List Sg} (h : chk ss = 0) : pE ⟨(textOf ss).toArray⟩ = 0 ∧ pS ⟨(textOf ss).toArray⟩ = ss := by
  unfold pE pS
  rw [parse_back h]
  exact ⟨h, if_pos h⟩
theorem text_size {ss : List Sg} (h : chk ss = 0) : (⟨(textOf ss).toArray⟩ : ByteArray).size ≤ 34980 := by
  have := textOf_len h fun hl => by
    cases ss with
    | nil => simp at hl
    | cons s r => exact ⟨s, r, rfl, first_move h (by simp)⟩
  show (textOf ss).toArray.size ≤ 34980
  simpa using this

end Go.Proofs.YtbdpjdhnmllkiaaDoor
