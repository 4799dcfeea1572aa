/- What Check and the makers of maps in package affine return, and the reference's tests. -/
import Derived.Test.YtcdedefhofkbhaaAfRet
namespace Go.Proofs.Ytcdedefhofkbhaa.Af
open Go Go.RowKit
set_option linter.unusedVariables false

def Good (a b c d e f : Int) : Prop := Wi 1048576 [a, b, c, d] ∧ Wi 268435456 [e, f]

theorem wi4 {m a b c d : Int} : Wi m [a, b, c, d] ↔ (-m ≤ a ∧ a ≤ m) ∧ (-m ≤ b ∧ b ≤ m) ∧ (-m ≤ c ∧ c ≤ m) ∧ (-m ≤ d ∧ d ≤ m) :=
  ⟨fun h => ⟨h 0 (by simp), h 1 (by simp), h 2 (by simp), h 3 (by simp)⟩, fun h i hi => match i, hi with
    | 0, _ => h.1
    | 1, _ => h.2.1
    | 2, _ => h.2.2.1
    | 3, _ => h.2.2.2⟩
theorem wi2 {m a b : Int} : Wi m [a, b] ↔ (-m ≤ a ∧ a ≤ m) ∧ (-m ≤ b ∧ b ≤ m) :=
  ⟨fun h => ⟨h 0 (by simp), h 1 (by simp)⟩, fun h i hi => match i, hi with
    | 0, _ => h.1
    | 1, _ => h.2⟩
instance (m a b c d : Int) : Decidable (Wi m [a, b, c, d]) := decidable_of_iff _ wi4.symm
instance (m a b : Int) : Decidable (Wi m [a, b]) := decidable_of_iff _ wi2.symm
instance (a b c d e f : Int) : Decidable (Good a b c d e f) := inferInstanceAs (Decidable (_ ∧ _))

theorem within4 (r : Bool) (m a b c d : Int) (B cap : Nat) (w : World) (hm : 0 ≤ m ∧ m ≤ 268435456) (hr : r = true ↔ Wi m [a, b, c, d]) (hc : Lies w B 0 [a, b, c, d]) :
    Calls Try.prog 34 #[.int .i64 m, .slice (some ⟨B, 0, none⟩) 4 cap] w fun e w' => e = .returned (.bool r) ∧ w = w' := by
  cases r
  · exact within_no m [a, b, c, d] B 0 cap w hm (by simp) hc (fun h => by have := hr.2 h; cases this)
  · exact within_yes m [a, b, c, d] B 0 cap w hm (by simp) hc (hr.1 rfl)
theorem within2 (r : Bool) (m a b : Int) (B cap : Nat) (w : World) (hm : 0 ≤ m ∧ m ≤ 268435456) (hr : r = true ↔ Wi m [a, b]) (hc : Lies w B 0 [a, b]) :
    Calls Try.prog 34 #[.int .i64 m, .slice (some ⟨B, 0, none⟩) 2 cap] w fun e w' => e = .returned (.bool r) ∧ w = w' := by
  cases r
  · exact within_no m [a, b] B 0 cap w hm (by simp) hc (fun h => by have := hr.2 h; cases this)
  · exact within_yes m [a, b] B 0 cap w hm (by simp) hc (hr.1 rfl)

theorem chk_good1 (a b c d e f : Int) (w : World) (h : Wi 1048576 [a, b, c, d] ∧ Wi 268435456 [e, f]) :
    Calls Try.prog 35 #[mx a b c d e f] w fun r w' => r = .returned (.int .i64 0) ∧ Below w.heap.size w w' := by
  have H := hid h
  clear h
  go_enter Try.func35, Try.ntmps35
  go_wp2_with fail
  (with_reducible refine (within4 true 1048576 a b c d _ _ _ (by omega) (iff_of_true rfl H.out.1) (Var.new _ _ _ _ (by simp)).lies4).mono ?_); rintro r w1 ⟨rfl, rfl⟩
  go_wp2_with fail
  (with_reducible refine (within2 true 268435456 e f _ _ _ (by omega) (iff_of_true rfl H.out.2) (Var.new _ _ _ _ (by simp)).lies2).mono ?_); rintro r w1 ⟨rfl, rfl⟩
  go_wp2_with fail
  go_ret
  exact ⟨rfl, by repeat (first | exact Below.refl _ _ | apply below_drewN | apply Below.drew | apply below_alloc)⟩

theorem chk_good (a b c d e f : Int) (w : World) (h : Good a b c d e f) :
    Calls Try.prog 35 #[mx a b c d e f] w fun r w' => r = .returned (.int .i64 0) ∧ Below w.heap.size w w' := chk_good1 a b c d e f w h

theorem chk_bad1 (a b c d e f : Int) (w : World) (h : ¬ Wi 1048576 [a, b, c, d]) :
    Calls Try.prog 35 #[mx a b c d e f] w fun r w' => r = .returned (.int .i64 3) ∧ Below w.heap.size w w' := by
  have H := hid h
  clear h
  go_enter Try.func35, Try.ntmps35
  go_wp2_with fail
  (with_reducible refine (within4 false 1048576 a b c d _ _ _ (by omega) (iff_of_false Bool.false_ne_true H.out) (Var.new _ _ _ _ (by simp)).lies4).mono ?_); rintro r w1 ⟨rfl, rfl⟩
  go_wp2_with fail
  go_ret
  exact ⟨rfl, by repeat (first | exact Below.refl _ _ | apply below_drewN | apply Below.drew | apply below_alloc)⟩

theorem chk_bad2 (a b c d e f : Int) (w : World) (h : Wi 1048576 [a, b, c, d] ∧ ¬ Wi 268435456 [e, f]) :
    Calls Try.prog 35 #[mx a b c d e f] w fun r w' => r = .returned (.int .i64 3) ∧ Below w.heap.size w w' := by
  have H := hid h
  clear h
  go_enter Try.func35, Try.ntmps35
  go_wp2_with fail
  (with_reducible refine (within4 true 1048576 a b c d _ _ _ (by omega) (iff_of_true rfl H.out.1) (Var.new _ _ _ _ (by simp)).lies4).mono ?_); rintro r w1 ⟨rfl, rfl⟩
  go_wp2_with fail
  (with_reducible refine (within2 false 268435456 e f _ _ _ (by omega) (iff_of_false Bool.false_ne_true H.out.2) (Var.new _ _ _ _ (by simp)).lies2).mono ?_); rintro r w1 ⟨rfl, rfl⟩
  go_wp2_with fail
  go_ret
  exact ⟨rfl, by repeat (first | exact Below.refl _ _ | apply below_drewN | apply Below.drew | apply below_alloc)⟩

/-- The error of a map. -/
def errM (a b c d e f : Int) : Int := if Good a b c d e f then 0 else 3
theorem errM_good {a b c d e f : Int} (h : Good a b c d e f) : errM a b c d e f = 0 := if_pos h
theorem errM_bad {a b c d e f : Int} (h : ¬ Good a b c d e f) : errM a b c d e f = 3 := if_neg h

theorem chk_bad (a b c d e f : Int) (w : World) (h : ¬ Good a b c d e f) :
    Calls Try.prog 35 #[mx a b c d e f] w fun r w' => r = .returned (.int .i64 3) ∧ Below w.heap.size w w' := by
  by_cases h1 : Wi 1048576 [a, b, c, d]
  · exact chk_bad2 a b c d e f w ⟨h1, fun h2 => h ⟨h1, h2⟩⟩
  · exact chk_bad1 a b c d e f w h1
theorem chk_any (a b c d e f : Int) (w : World) :
    Calls Try.prog 35 #[mx a b c d e f] w fun r w' => r = .returned (.int .i64 (errM a b c d e f)) ∧ Below w.heap.size w w' := by
  by_cases h : Good a b c d e f
  · rw [errM_good h]; exact chk_good a b c d e f w h
  · rw [errM_bad h]; exact chk_bad a b c d e f w h

/-- The answer of a function that has worked out a map, or its first error e0 (0: none). -/
structure MapIs (e0 a b c d e f : Int) (v : Value) (r : Int) : Prop where
  good : e0 = 0 → Good a b c d e f → v = mx a b c d e f ∧ r = 0
  over : e0 = 0 → ¬ Good a b c d e f → v = mx 0 0 0 0 0 0 ∧ r = 10
  bad : e0 ≠ 0 → v = mx 0 0 0 0 0 0 ∧ r = e0

theorem MapIs.mk' (e0 a b c d e f : Int) : ∃ a' b' c' d' e' f' r, MapIs e0 a b c d e f (mx a' b' c' d' e' f') r := by
  by_cases h0 : e0 = 0
  · by_cases h : Good a b c d e f
    · exact ⟨a, b, c, d, e, f, 0, fun _ _ => ⟨rfl, rfl⟩, fun _ k => absurd h k, fun k => absurd h0 k⟩
    · exact ⟨0, 0, 0, 0, 0, 0, 10, fun _ k => absurd k h, fun _ _ => ⟨rfl, rfl⟩, fun k => absurd h0 k⟩
  · exact ⟨0, 0, 0, 0, 0, 0, e0, fun k => absurd k h0, fun k => absurd k h0, fun _ => ⟨rfl, rfl⟩⟩

end Go.Proofs.Ytcdedefhofkbhaa.Af
