/- The closure of Has of package region. -/
import Derived.Test.YtjehmjcalapaiaaComb
import Derived.Test.YtjehmjcalapaiaaOps
import Derived.Test.YtjehmjcalapaiaaOwn
namespace Go.Proofs.Ytjehmjcalapaiaa
open Go Go.RowKit
set_option linter.unusedVariables false

theorem hasC_any (b1 b2 : Nat) (r : Rn) (x y : Int) (w : World) (hy : w.cell? ⟨b1, 0, none⟩ = some (.int .i64 y)) (hx : w.cell? ⟨b2, 0, none⟩ = some (.int .i64 x)) (hb1 : b1 < w.heap.size) (hb2 : b2 < w.heap.size) :
    Calls Try.prog 75 #[rn r, .pointer (some ⟨b1, 0, none⟩), .pointer (some ⟨b2, 0, none⟩)] w fun e w' => e = .returned (.bool (hasR r x y)) ∧ Below w.heap.size w w' := by
  have n1 : b1 ≠ w.heap.size := by omega
  have n2 : b2 ≠ w.heap.size := by omega
  by_cases h1 : r.y = y
  · by_cases h2 : r.a ≤ x
    · rw [show hasR r x y = decide (x < r.b) from decide_eq_decide.2 (by omega)]
      go_enter Try.func75, Try.ntmps75
      go_wp2_with fail
      go_ret
      exact ⟨rfl, below_alloc (Below.refl _ w) _⟩
    · rw [show hasR r x y = false from decide_eq_false (by omega)]
      go_enter Try.func75, Try.ntmps75
      go_wp2_with fail
      go_ret
      exact ⟨rfl, below_alloc (Below.refl _ w) _⟩
  · rw [show hasR r x y = false from decide_eq_false (by omega)]
    go_enter Try.func75, Try.ntmps75
    go_wp2_with fail
    go_ret
    exact ⟨rfl, below_alloc (Below.refl _ w) _⟩

end Go.Proofs.Ytjehmjcalapaiaa
