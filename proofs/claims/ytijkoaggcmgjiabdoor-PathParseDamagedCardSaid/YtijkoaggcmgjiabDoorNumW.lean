/- What the reference's digits reads at a place, and the word that stands there. -/
import Derived.Test.YtijkoaggcmgjiabDoorNumD
namespace Go.Proofs.YtijkoaggcmgjiabDoor
open Go
set_option linter.unusedVariables false
set_option linter.unusedSimpArgs false

theorem tw_all : ∀ (d r : List UInt8), (∀ b ∈ d, isDig b = true) → (∀ b q, r = b :: q → isDig b = false) → (d ++ r).takeWhile isDig = d
  | [], [], _, _ => rfl
  | [], b :: q, _, h => by
    rw [List.nil_append, List.takeWhile_cons, if_neg (by rw [h b q rfl]; decide)]
  | b :: d, r, hd, h => by
    rw [List.cons_append, List.takeWhile_cons, if_pos (hd b (by simp)), tw_all d r (fun x hx => hd x (by simp [hx])) h]
theorem space_no : isDig 32 = false := by decide
theorem minus_no : isDig 45 = false := by decide
theorem byteAt_cons {l : List UInt8} {a : Nat} {b : UInt8} {r : List UInt8} (h : l.drop a = b :: r) : a < l.length ∧ byteAt l a = b ∧ l.drop (a + 1) = r := by
  have hl : a < l.length := by
    rcases Nat.lt_or_ge a l.length with k | k
    · exact k
    · rw [List.drop_eq_nil_of_le k] at h; cases h
  rw [List.drop_eq_getElem_cons hl] at h
  injection h with h1 h2
  refine ⟨hl, ?_, h2⟩
  unfold byteAt
  rw [List.getD_eq_getElem?_getD, List.getElem?_eq_getElem hl]
  exact h1
theorem digN_of {l : List UInt8} {neg : Bool} {a : Nat} {d r : List UInt8} (hd : Dg d) (hl : d.length ≤ 5) (h : l.drop a = d ++ r) (hr : ∀ b q, r = b :: q → isDig b = false) (hn : neg = true → d ≠ [48]) :
    digN l neg a = some (if neg then -(dval d : Int) else (dval d : Int), a + d.length) := by
  have ht : (l.drop a).takeWhile isDig = d := by rw [h]; exact tw_all d r hd.all hr
  have hnd : nd l a = d.length := by unfold nd; rw [ht]
  have h0 := List.length_pos_iff.2 hd.ne
  unfold digN
  rw [hnd, if_neg (by omega), if_neg (by omega), if_neg, h, List.take_left']
  · rfl
  · rintro ⟨h48, k⟩
    cases hq : d with
    | nil => exact hd.ne hq
    | cons b q =>
      rw [hq, List.cons_append] at h
      have hb := (byteAt_cons h).2.1
      rw [h48] at hb
      subst hb
      have := hd.head q hq
      subst this
      rcases k with k | k
      · rw [hq] at k; simp at k
      · exact hn k hq
theorem digS_of {l w r : List UInt8} {v : Int} {a : Nat} (hw : numL w = some v) (h : l.drop a = w ++ r) (hr : ∀ b q, r = b :: q → b = 32) : digS l a = some (v, a + w.length) := by
  have hr' : ∀ b q, r = b :: q → isDig b = false := fun b q e => by rw [hr b q e]; exact space_no
  obtain ⟨d, hd, hl, ⟨rfl, rfl⟩ | ⟨rfl, rfl, hne⟩⟩ := itoa_form.1 (numL_iff.1 hw)
  · have hm : ¬ (a < l.length ∧ byteAt l a = 45) := by
      rintro ⟨_, e⟩
      cases hq : w with
      | nil => exact hd.ne hq
      | cons b q =>
        rw [hq, List.cons_append] at h
        have hb := (byteAt_cons h).2.1
        rw [e] at hb
        have := hd.all b (by rw [hq]; simp)
        rw [← hb, minus_no] at this
        cases this
    unfold digS
    rw [if_neg hm, digN_of hd hl h hr' (fun k => by cases k)]
    rfl
  · rw [List.cons_append] at h
    obtain ⟨h1, h2, h3⟩ := byteAt_cons h
    unfold digS
    rw [if_pos ⟨h1, h2⟩, digN_of hd hl h3 hr' (fun _ => hne)]
    simp
    omega
theorem digN_some {l : List UInt8} {neg : Bool} {a : Nat} {n : Int} {k : Nat} (h : digN l neg a = some (n, k)) :
    ∃ d, Dg d ∧ d.length ≤ 5 ∧ k = a + d.length ∧ d = (l.drop a).take d.length ∧ n = (if neg then -(dval d : Int) else (dval d : Int)) ∧ (neg = true → d ≠ [48]) := by
  unfold digN at h
  split at h
  · cases h
  · split at h
    · cases h
    · split at h
      · cases h
      · rename_i h5 h0 h48
        have ht : (l.drop a).take (nd l a) = (l.drop a).takeWhile isDig := by
          unfold nd
          exact List.prefix_iff_eq_take.1 (List.takeWhile_prefix _) |>.symm
        have hlen : ((l.drop a).takeWhile isDig).length = nd l a := rfl
        obtain ⟨rfl, rfl⟩ : _ = n ∧ _ = k := by simpa using h
        have hall : ∀ b ∈ (l.drop a).takeWhile isDig, isDig b = true := fun b hb => by
          have := List.all_takeWhile (p := isDig) (l := l.drop a)
          exact List.all_eq_true.1 this b hb
        have hhead : ∀ r, (l.drop a).takeWhile isDig = 48 :: r → byteAt l a = 48 := fun r e => by
          cases hq : l.drop a with
          | nil => rw [hq] at e; cases e
          | cons b q =>
            rw [hq, List.takeWhile_cons] at e
            split at e
            · injection e with e1 _
              rw [← e1]
              exact (byteAt_cons hq).2.1
            · cases e
        refine ⟨(l.drop a).takeWhile isDig, ⟨fun e => h0 (by rw [← hlen, e]; rfl), hall, fun r e => ?_⟩, by rw [hlen]; omega, by rw [hlen], by rw [hlen, ht], by rw [ht], fun hn e => ?_⟩
        · have hb := hhead r e
          have hc : ¬ 1 < nd l a := fun k => h48 ⟨hb, .inl k⟩
          rw [← hlen, e] at hc
          rw [List.length_cons] at hc
          exact List.eq_nil_of_length_eq_zero (by omega)
        · exact h48 ⟨hhead [] e, .inr hn⟩
theorem digS_some {l : List UInt8} {a : Nat} {n : Int} {k : Nat} (h : digS l a = some (n, k)) : ∃ w, k = a + w.length ∧ w = (l.drop a).take w.length ∧ numL w = some n := by
  unfold digS at h
  split at h
  · rename_i hm
    obtain ⟨d, hd, hl, hk, ht, hn, hne⟩ := digN_some h
    refine ⟨45 :: d, by rw [hk]; simp; omega, ?_, numL_iff.2 (itoa_form.2 ⟨d, hd, hl, .inr ⟨rfl, hn, hne rfl⟩⟩)⟩
    rw [List.drop_eq_getElem_cons hm.1, List.length_cons, List.take_succ_cons, ← ht]
    congr 1
    have := hm.2
    unfold byteAt at this
    rw [List.getD_eq_getElem?_getD, List.getElem?_eq_getElem hm.1] at this
    exact this.symm
  · obtain ⟨d, hd, hl, hk, ht, hn, hne⟩ := digN_some h
    exact ⟨d, hk, ht, numL_iff.2 (itoa_form.2 ⟨d, hd, hl, .inl ⟨rfl, hn⟩⟩)⟩

end Go.Proofs.YtijkoaggcmgjiabDoor
