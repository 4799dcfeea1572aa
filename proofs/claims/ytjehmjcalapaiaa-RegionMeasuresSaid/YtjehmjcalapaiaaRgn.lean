/- The helpers of the statements on regions: regions, short, pair. -/
import Derived.Test.YtjehmjcalapaiaaFour
import Derived.Test.YtjehmjcalapaiaaRect
import Derived.Test.YtjehmjcalapaiaaSame
import Derived.Test.YtjehmjcalapaiaaRChk
namespace Go.Proofs.Ytjehmjcalapaiaa
open Go Go.RowKit
set_option linter.unusedVariables false

theorem GivesR.mono {E : Int} {rs : List Rn} {w : World} {e : Ending} {w' : World} (h : GivesR E rs w e w') : ∃ A c, e = .returned (.tuple #[.slice A rs.length c, .int .i64 E]) ∧ Runs w' A rs ∧ Below w.heap.size w w' := by
  obtain ⟨v, rfl, ho, hb⟩ := h
  obtain ⟨A, c, rfl, hr⟩ := ho.is
  exact ⟨A, c, rfl, hr, hb⟩
theorem GivesOp.mono {keep : Bool → Bool → Bool} {xs ys : List Rn} {w : World} {e : Ending} {w' : World} (h : GivesOp keep xs ys w e w') : ∃ A c res, e = .returned (.tuple #[.slice A res.length c, .int .i64 (pairE xs ys)]) ∧ Runs w' A res ∧ Below w.heap.size w w' ∧ (pairE xs ys = 0 → IsOp keep xs ys res) ∧ (pairE xs ys ≠ 0 → res = []) := by
  obtain ⟨v, res, rfl, ho, hb, h1, h2⟩ := h
  obtain ⟨A, c, rfl, hr⟩ := ho.is
  exact ⟨A, c, res, rfl, hr, hb, h1, h2⟩

abbrev exA : List Rn := [⟨0, 0, 2⟩, ⟨1, 0, 2⟩]
abbrev exB : List Rn := [⟨1, 2, 4⟩, ⟨2, 2, 4⟩]
abbrev exU : List Rn := [⟨0, 0, 2⟩, ⟨1, 0, 4⟩, ⟨2, 2, 4⟩]
theorem ex_union : IsOp (fun a b => a || b) exA exB exU := by
  refine ⟨by decide, fun x y => ?_⟩
  rw [Bool.eq_iff_iff]
  simp only [has, hasR, List.any_cons, List.any_nil, Bool.or_false, Bool.or_eq_true, decide_eq_true_eq]
  omega
theorem ex_same {res : List Rn} (h : IsOp (fun a b => a || b) exA exB res) : res = exU := h.uniq ex_union

set_option maxHeartbeats 2000000 in
theorem regions_any (w : World) : Calls Try.prog 37 #[] w fun e w' => e = .returned (.bool true) ∧ Below w.heap.size w w' := by
  have hA := rect_any 0 0 2 2 w
  rw [show rectE 0 0 2 2 = 0 by decide, show rectR 0 0 2 2 = exA by decide] at hA
  go_enter Try.func37, Try.ntmps37
  go_wp2_with fail
  (with_reducible refine hA.mono ?_); rintro e w1 hg
  obtain ⟨A, c, rfl, hr, hb⟩ := hg.mono
  have HR := hid hr
  have HB := hid hb
  have hB := rect_any 2 1 4 3 w1
  rw [show rectE 2 1 4 3 = 0 by decide, show rectR 2 1 4 3 = exB by decide] at hB
  clear hr hb hA hg
  go_wp2_with fail
  (with_reducible refine hB.mono ?_); rintro e w2 hg
  obtain ⟨A2, c2, rfl, hr2, hb2⟩ := hg.mono
  have HR1 := hid (HR.out.next hb2)
  have HR2 := hid hr2
  have HB2 := hid (below_next HB.out hb2)
  clear hr2 hb2 hB hg HR HB
  go_wp2_with fail
  (with_reducible refine (union_any A A2 exA exB 2 c 2 c2 _ rfl rfl (by decide) (by decide) HR1.out HR2.out).mono ?_); rintro e w3 hg
  obtain ⟨A3, c3, res, rfl, hr3, hb3, h1, -⟩ := hg.mono
  obtain rfl := ex_same (h1 (by decide))
  rw [show pairE exA exB = 0 by decide]
  have HR3 := hid (hr3.next ((Below.refl _ w3).alloc (Nat.le_refl _) (.cells #[.int .i64 0, .int .i64 0, .int .i64 2, .int .i64 1, .int .i64 0, .int .i64 4, .int .i64 2, .int .i64 2, .int .i64 4] 43)))
  have HB3 := hid (below_alloc (below_next HB2.out hb3) (.cells #[.int .i64 0, .int .i64 0, .int .i64 2, .int .i64 1, .int .i64 0, .int .i64 4, .int .i64 2, .int .i64 2, .int .i64 4] 43))
  clear hr3 hb3 h1 hg HR1 HR2 HB2
  go_wp2_with (go_at_call 34; (with_reducible refine (same_any A3 _ 3 c3 3 3 exU exU _ rfl rfl (by decide) (by decide) HR3.out (runs3 (s := ⟨0, 0, 2⟩) (t := ⟨1, 0, 4⟩) (u := ⟨2, 2, 4⟩) (Var.new w3 _ _ _ rfl))).mono ?_); rintro e w4 ⟨rfl, hb4⟩; have HB4 := hid (below_next HB3.out hb4); clear hb4; rw [show decide (exU = exU) = true by decide])
  go_ret
  exact ⟨rfl, HB4.out⟩

end Go.Proofs.Ytjehmjcalapaiaa
