/- What the small functions of package raster and of the statements return. -/
import Derived.Test.YtdjjijkdalpggaaRows
import Derived.WalkKit
import Derived.WalkSpells
import Derived.RegionTactic
import Derived.Deep.QuietTactic
import Derived.BigQuiet
import Derived.Lib.Hide
namespace Go.Proofs.Ytdjjijkdalpggaa
open Go Go.RowKit
set_option linter.unusedVariables false

theorem hid {p : Prop} (h : p) : Hid p := h

/-! ### cut -/
theorem cut_val (x lo hi : Int) (w : World) (h : lo ≤ hi) (hn : hi - lo < 4611686018427387904) (hl : -4611686018427387904 ≤ lo) (hh : hi ≤ 4611686018427387904) :
    Calls Try.prog 14 #[.int .i64 x, .int .i64 lo, .int .i64 hi] w fun e w' => e = .returned (.int .i64 (lo + x.tmod (hi - lo + 1) % (hi - lo + 1))) ∧ w = w' := by
  have t1 := Int.lt_tmod_of_pos x (show 0 < hi - lo + 1 by omega)
  have t2 := Int.tmod_lt_of_pos x (show 0 < hi - lo + 1 by omega)
  have t3 := Int.emod_nonneg (x.tmod (hi - lo + 1)) (show hi - lo + 1 ≠ 0 by omega)
  have t4 := Int.emod_lt_of_pos (x.tmod (hi - lo + 1)) (show 0 < hi - lo + 1 by omega)
  go_enter Try.func14, Try.ntmps14
  go_wp2
  go_ret
  exact ⟨rfl, rfl⟩

def InCut (lo hi : Int) (w : World) (e : Ending) (w' : World) : Prop := ∃ c : Int, lo ≤ c ∧ c ≤ hi ∧ e = .returned (.int .i64 c) ∧ w = w'

theorem in_cut {x lo hi : Int} {w : World} {e : Ending} {w' : World} (h : lo ≤ hi) (he : e = .returned (.int .i64 (lo + x.tmod (hi - lo + 1) % (hi - lo + 1)))) (hw : w = w') : InCut lo hi w e w' :=
  ⟨_, by
    have t3 := Int.emod_nonneg (x.tmod (hi - lo + 1)) (show hi - lo + 1 ≠ 0 by omega)
    omega, by
    have t4 := Int.emod_lt_of_pos (x.tmod (hi - lo + 1)) (show 0 < hi - lo + 1 by omega)
    omega, he, hw⟩

theorem cut_in (x lo hi : Int) (w : World) (h : lo ≤ hi) (hn : hi - lo < 4611686018427387904) (hl : -4611686018427387904 ≤ lo) (hh : hi ≤ 4611686018427387904) :
    Calls Try.prog 14 #[.int .i64 x, .int .i64 lo, .int .i64 hi] w (InCut lo hi w) :=
  (cut_val x lo hi w h hn hl hh).mono fun _ _ ⟨he, hw⟩ => in_cut h he hw

theorem cutl_val (x lo hi : Int) (w : World) (h : lo ≤ hi) (hn : hi - lo < 4611686018427387904) (hl : -4611686018427387904 ≤ lo) (hh : hi ≤ 4611686018427387904) :
    Calls Try.prog 26 #[.int .i64 x, .int .i64 lo, .int .i64 hi] w fun e w' => e = .returned (.int .i64 (lo + x.tmod (hi - lo + 1) % (hi - lo + 1))) ∧ w = w' := by
  have t1 := Int.lt_tmod_of_pos x (show 0 < hi - lo + 1 by omega)
  have t2 := Int.tmod_lt_of_pos x (show 0 < hi - lo + 1 by omega)
  have t3 := Int.emod_nonneg (x.tmod (hi - lo + 1)) (show hi - lo + 1 ≠ 0 by omega)
  have t4 := Int.emod_lt_of_pos (x.tmod (hi - lo + 1)) (show 0 < hi - lo + 1 by omega)
  go_enter Try.func26, Try.ntmps26
  go_wp2
  go_ret
  exact ⟨rfl, rfl⟩

theorem cutl_in (x lo hi : Int) (w : World) (h : lo ≤ hi) (hn : hi - lo < 4611686018427387904) (hl : -4611686018427387904 ≤ lo) (hh : hi ≤ 4611686018427387904) :
    Calls Try.prog 26 #[.int .i64 x, .int .i64 lo, .int .i64 hi] w (InCut lo hi w) :=
  (cutl_val x lo hi w h hn hl hh).mono fun _ _ ⟨he, hw⟩ => in_cut h he hw

/-! ### tests of one number or three: the answer under a name that the walk does not open -/
def btwB (x lo hi : Int) : Bool := decide (lo ≤ x) && decide (x ≤ hi)
theorem btw_yes {x lo hi : Int} (h : lo ≤ x ∧ x ≤ hi) : btwB x lo hi = true := by simp [btwB, h]
theorem btw_no {x lo hi : Int} (h : ¬ (lo ≤ x ∧ x ≤ hi)) : btwB x lo hi = false := by
  unfold btwB
  by_cases h1 : lo ≤ x
  · simp [h1]; omega
  · simp [h1]
theorem btw_iff {x lo hi : Int} : btwB x lo hi = true ↔ (lo ≤ x ∧ x ≤ hi) := by simp [btwB]

theorem in_any (x lo hi : Int) (w : World) : Calls Try.prog 24 #[.int .i64 x, .int .i64 lo, .int .i64 hi] w fun e w' => e = .returned (.bool (btwB x lo hi)) ∧ w = w' := by
  by_cases h1 : lo ≤ x
  · by_cases h2 : x ≤ hi
    · rw [btw_yes ⟨h1, h2⟩]
      go_enter Try.func24, Try.ntmps24
      go_wp2
      go_ret
      exact ⟨rfl, rfl⟩
    · rw [btw_no (by omega)]
      go_enter Try.func24, Try.ntmps24
      go_wp2
      go_ret
      exact ⟨rfl, rfl⟩
  · rw [btw_no (by omega)]
    go_enter Try.func24, Try.ntmps24
    go_wp2
    go_ret
    exact ⟨rfl, rfl⟩

theorem side_any (x : Int) (w : World) : Calls Try.prog 45 #[.int .i64 x] w fun e w' => e = .returned (.bool (btwB x 1 1024)) ∧ w = w' := by
  by_cases h1 : 1 ≤ x
  · by_cases h2 : x ≤ 1024
    · rw [btw_yes ⟨h1, h2⟩]
      go_enter Try.func45, Try.ntmps45
      go_wp2
      go_ret
      exact ⟨rfl, rfl⟩
    · rw [btw_no (by omega)]
      go_enter Try.func45, Try.ntmps45
      go_wp2
      go_ret
      exact ⟨rfl, rfl⟩
  · rw [btw_no (by omega)]
    go_enter Try.func45, Try.ntmps45
    go_wp2
    go_ret
    exact ⟨rfl, rfl⟩

theorem offset_any (x : Int) (w : World) : Calls Try.prog 43 #[.int .i64 x] w fun e w' => e = .returned (.bool (btwB x (-1024) 1024)) ∧ w = w' := by
  by_cases h1 : -1024 ≤ x
  · by_cases h2 : x ≤ 1024
    · rw [btw_yes ⟨h1, h2⟩]
      go_enter Try.func43, Try.ntmps43
      go_wp2
      go_ret
      exact ⟨rfl, rfl⟩
    · rw [btw_no (by omega)]
      go_enter Try.func43, Try.ntmps43
      go_wp2
      go_ret
      exact ⟨rfl, rfl⟩
  · rw [btw_no (by omega)]
    go_enter Try.func43, Try.ntmps43
    go_wp2
    go_ret
    exact ⟨rfl, rfl⟩

/-- isPart, at a raster of 1 to 1024 columns. -/
def partB (x n all : Int) : Bool := decide (0 ≤ x) && (decide (1 ≤ n) && (decide (n ≤ all) && decide (x ≤ all - n)))
theorem part_any (x n all : Int) (w : World) (h1 : 1 ≤ all) (h2 : all ≤ 1024) :
    Calls Try.prog 42 #[.int .i64 x, .int .i64 n, .int .i64 all] w fun e w' => e = .returned (.bool (partB x n all)) ∧ w = w' := by
  by_cases a : 0 ≤ x
  · by_cases b : 1 ≤ n
    · by_cases c : n ≤ all
      · by_cases d : x ≤ all - n
        · have : partB x n all = true := by simp [partB, a, b, c, d]
          rw [this]
          go_enter Try.func42, Try.ntmps42
          go_wp2
          go_ret
          exact ⟨rfl, rfl⟩
        · have : partB x n all = false := by simp [partB, a, b, c, d]
          rw [this]
          have d' : decide (x ≤ all - n) = false := decide_eq_false d
          go_enter Try.func42, Try.ntmps42
          go_wp2
          go_ret
          exact ⟨rfl, rfl⟩
      · have : partB x n all = false := by simp [partB, c]
        rw [this]
        go_enter Try.func42, Try.ntmps42
        go_wp2
        go_ret
        exact ⟨rfl, rfl⟩
    · have : partB x n all = false := by simp [partB, b]
      rw [this]
      go_enter Try.func42, Try.ntmps42
      go_wp2
      go_ret
      exact ⟨rfl, rfl⟩
  · have : partB x n all = false := by simp [partB, a]
    rw [this]
    go_enter Try.func42, Try.ntmps42
    go_wp2
    go_ret
    exact ⟨rfl, rfl⟩

/-- The part from l to r that two ranges share. -/
def Common (x n all : Int) (w : World) (e : Ending) (w' : World) : Prop :=
  ∃ l r : Int, (0 ≤ l ∧ x ≤ l ∧ (l = 0 ∨ l = x)) ∧ (r ≤ x + n ∧ r ≤ all ∧ (r = x + n ∨ r = all)) ∧ e = .returned (.tuple #[.int .i64 l, .int .i64 r]) ∧ w = w'

theorem common_any (x n all : Int) (w : World) (h1 : -2000 ≤ x) (h2 : x ≤ 2000) (h3 : 0 ≤ n) (h4 : n ≤ 2000) (h5 : 0 ≤ all) (h6 : all ≤ 2000) :
    Calls Try.prog 44 #[.int .i64 x, .int .i64 n, .int .i64 all] w (Common x n all w) := by
  go_enter Try.func44, Try.ntmps44
  go_wp2
  all_goals
    go_ret2
    exact ⟨_, _, ⟨by omega, by omega, by omega⟩, ⟨by omega, by omega, by omega⟩, rfl, rfl⟩

end Go.Proofs.Ytdjjijkdalpggaa
