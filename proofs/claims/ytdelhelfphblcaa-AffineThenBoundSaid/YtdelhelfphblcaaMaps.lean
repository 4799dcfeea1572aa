/- Maps are there: the helper of three statements returns true. -/
import Derived.Test.YtdelhelfphblcaaApp
import Derived.Test.YtdelhelfphblcaaQuart
namespace Go.Proofs.Ytdelhelfphblcaa
open Go Go.RowKit
set_option linter.unusedVariables false

theorem maps_known : AppIs 0 4096 (-4096) 0 0 0 1 2 (pt (-2) 1) 0 := by
  unfold AppIs
  rw [if_pos (by decide)]
  exact ⟨fun _ _ => ⟨rfl, rfl⟩, fun _ h => absurd (by decide) h, fun h => absurd rfl h⟩

theorem maps_any (w : World) : Calls Try.prog 10 #[] w fun e w' => e = .returned (.bool true) ∧ Below w.heap.size w w' := by
  go_enter Try.func10, Try.ntmps10
  go_wp2_with fail
  (with_reducible refine (quarter_any 1 (mx 0 4096 (-4096) 0 0 0) _ (by omega) (by unfold Turn; exact .inr (.inl ⟨rfl, rfl⟩))).mono ?_); rintro x w1 ⟨rfl, hb1⟩
  have HB1 := hid hb1
  clear hb1
  go_wp2_with fail
  (with_reducible refine (app_any _ _ _ _ _ _ _ _ _ _ _ _ maps_known).mono ?_); rintro x w2 ⟨rfl, hb⟩
  have HB2 := hid (below_next HB1.out hb)
  clear hb HB1
  go_wp2_with fail
  go_ret
  exact ⟨rfl, by repeat (first | exact HB2.out | apply below_drewN | apply Below.drew | apply below_alloc)⟩

end Go.Proofs.Ytdelhelfphblcaa
