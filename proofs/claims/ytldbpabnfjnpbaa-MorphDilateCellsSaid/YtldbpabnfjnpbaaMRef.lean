/- What the laws that compare package morph with the reference share: morphs, spread. -/
import Derived.Test.YtldbpabnfjnpbaaMLaw
import Derived.Test.YtldbpabnfjnpbaaMDil
namespace Go.Proofs.Ytldbpabnfjnpbaa
open Go Go.RowKit
set_option linter.unusedVariables false
set_option linter.unusedSimpArgs false

theorem morphs_any (w : World) : Calls Try.prog 38 #[] w fun e w' => e = .returned (.bool true) ∧ Below w.heap.size w w' := by
  have hb0 : Below w.heap.size w (w.alloc (.cells (cel ⟨5, 5, 6⟩) 37)) := below_alloc (Below.refl _ w) _
  have HB0 := hid hb0
  have HL0 := hid (show Runs (w.alloc (.cells (cel ⟨5, 5, 6⟩) 37)) (some ⟨w.heap.size, 0, none⟩) exS from runs1 (Var.new w _ _ _ rfl))
  clear hb0
  go_enter Try.func38, Try.ntmps38
  go_wp2_with fail
  (with_reducible refine (dilate_any (some ⟨w.heap.size, 0, none⟩) exS 1 1 1 _ rfl (by decide) (by exact HL0.out)).mono ?_); rintro e w1 ⟨A, c, res, rfl, hr, hb, h1, -⟩
  obtain rfl := ex_dil_is (h1 (by decide))
  rw [show spE exS 1 = 0 by decide]
  have HB := hid (below_next HB0.out hb)
  have HR := hid hr
  clear hr hb h1
  go_wp2_with fail
  (with_reducible refine (erode_any A exT 3 c 1 _ rfl (by decide) HR.out).mono ?_); rintro e w2 ⟨A2, c2, res, rfl, hr, hb, h1, -⟩
  obtain rfl := ex_ero_is (h1 (by decide))
  rw [show spE exT 1 = 0 by decide]
  have HB2 := hid (below_alloc (below_next HB.out hb) (.cells (cel ⟨5, 5, 6⟩) 37))
  have HR2 := hid (hr.next ((Below.refl _ w2).alloc (Nat.le_refl _) (.cells (cel ⟨5, 5, 6⟩) 37)))
  have HL2 := hid (show Runs (w2.alloc (.cells (cel ⟨5, 5, 6⟩) 37)) (some ⟨w2.heap.size, 0, none⟩) exS from runs1 (Var.new w2 _ _ _ rfl))
  clear hr hb h1 HB HR
  go_wp2_with (go_at_call 29; (with_reducible refine (same_any A2 _ 1 c2 1 1 exS exS _ rfl rfl (by decide) (by decide) HR2.out HL2.out).mono ?_); rintro e w3 ⟨rfl, hb3⟩; rw [show decide (exS = exS) = true from decide_eq_true rfl]; have HB3 := hid (below_next HB2.out hb3); clear hb3)
  go_ret
  exact ⟨rfl, HB3.out⟩

theorem spread_any (A : Option Addr) (ss : List Rn) (n c : Nat) (d : Int) (w : World) (hn : n = ss.length) (hl : n ≤ maxLen) (hs : Runs w A ss) :
    Calls Try.prog 40 #[.slice A n c, .int .i64 d] w fun e w' => e = .returned (.int .i64 (spE ss d)) ∧ Below w.heap.size w w' := by
  have HS := hid hs
  have HN := hid hn
  clear hs hn
  by_cases hc : chk ss = 0
  · have HC := hid hc
    by_cases h1 : 0 ≤ d ∧ d ≤ 64
    · have HE := hid (show spE ss d = 0 by unfold spE; rw [if_pos hc, if_pos h1])
      clear hc
      go_enter Try.func40, Try.ntmps40
      go_wp2_with fail
      (with_reducible refine (rcheck_any A ss n c _ HN.out hl HS.out).mono ?_); rintro e w1 ⟨rfl, hb⟩
      rw [HC.out]
      have HB := hid hb
      clear hb
      go_wp2_with (go_at_call 57; (with_reducible refine (in_t _ _ _ _ (by assumption)).mono ?_); rintro e w' ⟨rfl, rfl⟩)
      go_ret
      exact ⟨by rw [HE.out]; rfl, HB.out⟩
    · have HE := hid (show spE ss d = 3 by unfold spE; rw [if_pos hc, if_neg h1])
      clear hc
      go_enter Try.func40, Try.ntmps40
      go_wp2_with fail
      (with_reducible refine (rcheck_any A ss n c _ HN.out hl HS.out).mono ?_); rintro e w1 ⟨rfl, hb⟩
      rw [HC.out]
      have HB := hid hb
      clear hb
      go_wp2_with (go_at_call 57; (with_reducible refine (in_f _ _ _ _ (by assumption)).mono ?_); rintro e w' ⟨rfl, rfl⟩)
      go_ret
      exact ⟨by rw [HE.out]; rfl, HB.out⟩
  · have HE := hid (show spE ss d = chk ss from if_neg hc)
    have hc' : (chk ss != 0) = true := by simpa using hc
    clear hc
    go_enter Try.func40, Try.ntmps40
    go_wp2_with fail
    (with_reducible refine (rcheck_any A ss n c _ HN.out hl HS.out).mono ?_); rintro e w1 ⟨rfl, hb⟩
    have HB := hid hb
    clear hb
    go_wp2_with fail
    go_ret
    exact ⟨by rw [HE.out]; rfl, HB.out⟩

end Go.Proofs.Ytldbpabnfjnpbaa
