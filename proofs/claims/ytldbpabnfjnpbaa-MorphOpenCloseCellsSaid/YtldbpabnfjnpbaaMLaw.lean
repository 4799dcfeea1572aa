/- What the laws of package morph share: squares, within, morphs, spread. -/
import Derived.Test.YtldbpabnfjnpbaaMTop
import Derived.Test.YtldbpabnfjnpbaaNear
namespace Go.Proofs.Ytldbpabnfjnpbaa
open Go Go.RowKit
set_option linter.unusedVariables false
set_option linter.unusedSimpArgs false

abbrev exS : List Rn := [⟨5, 5, 6⟩]
abbrev exT : List Rn := [⟨4, 4, 7⟩, ⟨5, 4, 7⟩, ⟨6, 4, 7⟩]
theorem has_exS (x y : Int) : has exS x y = true ↔ y = 5 ∧ x = 5 := by
  rw [has_iff]
  constructor
  · rintro ⟨r, hr, e⟩
    simp only [List.mem_cons, List.not_mem_nil, or_false] at hr
    subst hr
    simp only at e
    omega
  · rintro ⟨rfl, rfl⟩
    exact ⟨⟨5, 5, 6⟩, by simp, rfl, by decide, by decide⟩
theorem has_exT (x y : Int) : has exT x y = true ↔ (4 ≤ y ∧ y ≤ 6) ∧ 4 ≤ x ∧ x < 7 := by
  rw [has_iff]
  constructor
  · rintro ⟨r, hr, e⟩
    simp only [List.mem_cons, List.not_mem_nil, or_false] at hr
    rcases hr with rfl | rfl | rfl <;> simp only at e <;> omega
  · rintro ⟨h1, h2⟩
    rcases (show y = 4 ∨ y = 5 ∨ y = 6 by omega) with rfl | rfl | rfl
    · exact ⟨⟨4, 4, 7⟩, by simp, rfl, h2.1, h2.2⟩
    · exact ⟨⟨5, 4, 7⟩, by simp, rfl, h2.1, h2.2⟩
    · exact ⟨⟨6, 4, 7⟩, by simp, rfl, h2.1, h2.2⟩
theorem ex_dil : Dil exS 1 exT := by
  refine ⟨by decide, fun x y => ?_⟩
  rw [has_exT]
  constructor
  · intro h
    exact ⟨by unfold Perm; omega, 5 - x, 5 - y, by omega, by omega, (has_exS _ _).2 (by omega)⟩
  · rintro ⟨-, dx, dy, h1, h2, h3⟩
    have := (has_exS _ _).1 h3
    omega
theorem ex_ero : Ero exT 1 exS := by
  refine ⟨by decide, fun x y => ?_⟩
  rw [has_exS]
  constructor
  · rintro ⟨rfl, rfl⟩ dx dy h1 h2
    exact (has_exT _ _).2 (by omega)
  · intro h
    have a := (has_exT _ _).1 (h (-1) (-1) (by omega) (by omega))
    have b := (has_exT _ _).1 (h 1 1 (by omega) (by omega))
    omega
theorem ex_dil_is {res : List Rn} (h : Dil exS 1 res) : res = exT := h.uniq ex_dil
theorem ex_ero_is {res : List Rn} (h : Ero exT 1 res) : res = exS := h.uniq ex_ero

theorem squares_any (w : World) : Calls Try.prog 30 #[] w fun e w' => e = .returned (.bool true) ∧ Below w.heap.size w w' := by
  have hB := rect_any 4 4 7 7
  rw [show rectE 4 4 7 7 = 0 by decide, show rectR 4 4 7 7 = exT by decide] at hB
  have HRC := hid hB
  have hb0 : Below w.heap.size w (w.alloc (.cells (cel ⟨5, 5, 6⟩) 37)) := below_alloc (Below.refl _ w) _
  have HB0 := hid hb0
  have HL0 := hid (show Runs (w.alloc (.cells (cel ⟨5, 5, 6⟩) 37)) (some ⟨w.heap.size, 0, none⟩) exS from runs1 (Var.new w _ _ _ rfl))
  clear hB hb0
  go_enter Try.func30, Try.ntmps30
  go_wp2_with fail
  (with_reducible refine (dilate_any (some ⟨w.heap.size, 0, none⟩) exS 1 1 1 _ rfl (by decide) (by exact HL0.out)).mono ?_); rintro e w1 ⟨A, c, res, rfl, hr, hb, h1, -⟩
  obtain rfl := ex_dil_is (h1 (by decide))
  rw [show spE exS 1 = 0 by decide]
  have HB := hid (below_next HB0.out hb)
  have HR := hid hr
  clear hr hb h1
  go_wp2_with fail
  (with_reducible refine (HRC.out _).mono ?_); rintro e w2 hg
  obtain ⟨A2, c2, rfl, hr2, hb2⟩ := hg.mono
  have HR1 := hid (HR.out.next hb2)
  have HR2 := hid hr2
  have HB2 := hid (below_next HB.out hb2)
  clear hr2 hb2 hg HR HB
  go_wp2_with (go_at_call 19; (with_reducible refine (equal_any A A2 3 c 3 c2 exT exT _ rfl rfl (by decide) (by decide) HR1.out HR2.out).mono ?_); rintro e w3 ⟨rfl, hb3⟩; rw [show decide (exT = exT) = true from decide_eq_true rfl]; have HB3 := hid (below_next HB2.out hb3); clear hb3)
  go_ret
  exact ⟨rfl, HB3.out⟩

/-! ### within -/
/-- Whether xs lies in ys. -/
noncomputable def subB (xs ys : List Rn) : Bool := @decide (Sub xs ys) (Classical.propDecidable _)
theorem subB_true {xs ys : List Rn} (h : Sub xs ys) : subB xs ys = true := @decide_eq_true _ (Classical.propDecidable _) h
theorem subB_false {xs ys : List Rn} (h : ¬ Sub xs ys) : subB xs ys = false := @decide_eq_false _ (Classical.propDecidable _) h
theorem subB_eq {a b c d : List Rn} (h : Sub a b ↔ Sub c d) : subB a b = subB c d := by
  by_cases k : Sub a b
  · rw [subB_true k, subB_true (h.1 k)]
  · rw [subB_false k, subB_false (fun q => k (h.2 q))]
theorem sub_minus {xs ys res : List Rn} (h : IsOp (fun a b => a && !b) xs ys res) : Sub xs ys ↔ res = [] := by
  constructor
  · intro hs
    refine has_inj h.v (show chkAll none [] = 0 from rfl) fun x y => ?_
    rw [h.h, has_nil]
    cases e : has xs x y
    · rfl
    · rw [hs x y e]; rfl
  · intro e x y k
    subst e
    have := h.h x y
    rw [has_nil, k] at this
    cases e : has ys x y
    · rw [e] at this; cases this
    · rfl
theorem within_any (A A' : Option Addr) (xs ys : List Rn) (n c m c' : Nat) (w : World) (hn : n = xs.length) (hm : m = ys.length) (hnl : n ≤ maxLen) (hml : m ≤ maxLen) (hx : Runs w A xs) (hy : Runs w A' ys) (cx : chk xs = 0) (cy : chk ys = 0) :
    Calls Try.prog 35 #[.slice A n c, .slice A' m c'] w fun e w' => e = .returned (.bool (subB xs ys)) ∧ Below w.heap.size w w' := by
  have HX := hid hx
  have HY := hid hy
  have HN := hid hn
  have HM := hid hm
  have CX := hid cx
  have CY := hid cy
  clear hx hy hn hm cx cy
  go_enter Try.func35, Try.ntmps35
  go_wp2_with fail
  (with_reducible refine (minus_any A A' xs ys n c m c' _ HN.out HM.out hnl hml HX.out HY.out).mono ?_); rintro e w1 ⟨v, res, rfl, ho, hb, h1, -⟩
  rw [pairE_ok CX.out CY.out]
  obtain ⟨A3, c3, hv, -⟩ := ho.is
  subst hv
  have HB := hid hb
  have HI := hid (sub_minus (h1 (pairE_ok CX.out CY.out)))
  clear ho hb h1
  obtain ⟨l, hL⟩ : ∃ l, l = res.length := ⟨_, rfl⟩
  rw [← hL]
  by_cases hl : l = 0
  · have HS := hid (subB_true (HI.out.2 (List.length_eq_zero_iff.1 (by rw [← hL]; exact hl))))
    subst hl
    clear hL
    go_wp2_with fail
    go_ret
    exact ⟨by rw [HS.out]; rfl, HB.out⟩
  · have HS : Hid (subB xs ys = false) := hid (subB_false fun k => hl (by rw [hL, HI.out.1 k]; rfl))
    have hl' : ((l : Int) == 0) = false := by simp; omega
    clear hl hL
    go_wp2_with fail
    go_ret
    exact ⟨by rw [HS.out]; rfl, HB.out⟩

theorem near_sq {m : Int} {ps : List P2} {rs : List Rn} (h : Made ps rs) (k : InSq m ps) : Sq m rs := fun x y e => by
  rw [h.has] at e
  have := k _ (of_decide_eq_true e)
  exact this

end Go.Proofs.Ytldbpabnfjnpbaa
