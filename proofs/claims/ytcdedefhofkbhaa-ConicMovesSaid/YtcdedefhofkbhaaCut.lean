/- What the helper cut of the first statements' package returns: a number of its range. -/
import Derived.Test.YtcdedefhofkbhaaLeaf
namespace Go.Proofs.Ytcdedefhofkbhaa
open Go Go.RowKit

theorem cut_val (x lo hi : Int) (w : World) (h : lo ≤ hi) (hn : hi - lo < 4611686018427387904) (hl : -4611686018427387904 ≤ lo) (hh : hi ≤ 4611686018427387904) :
    Calls Try.prog 11 #[.int .i64 x, .int .i64 lo, .int .i64 hi] w fun e w' => e = .returned (.int .i64 (lo + x.tmod (hi - lo + 1) % (hi - lo + 1))) ∧ w = w' := by
  have t1 := Int.lt_tmod_of_pos x (show 0 < hi - lo + 1 by omega)
  have t2 := Int.tmod_lt_of_pos x (show 0 < hi - lo + 1 by omega)
  have t3 := Int.emod_nonneg (x.tmod (hi - lo + 1)) (show hi - lo + 1 ≠ 0 by omega)
  have t4 := Int.emod_lt_of_pos (x.tmod (hi - lo + 1)) (show 0 < hi - lo + 1 by omega)
  go_enter Try.func11, Try.ntmps11
  go_wp2
  go_ret
  exact ⟨rfl, rfl⟩

def InCut (lo hi : Int) (w : World) (e : Ending) (w' : World) : Prop := ∃ c : Int, lo ≤ c ∧ c ≤ hi ∧ e = .returned (.int .i64 c) ∧ w = w'

theorem cut_in (x lo hi : Int) (w : World) (h : lo ≤ hi) (hn : hi - lo < 4611686018427387904) (hl : -4611686018427387904 ≤ lo) (hh : hi ≤ 4611686018427387904) :
    Calls Try.prog 11 #[.int .i64 x, .int .i64 lo, .int .i64 hi] w (InCut lo hi w) :=
  (cut_val x lo hi w h hn hl hh).mono fun e w' ⟨he, hw⟩ => ⟨_, by
    have t3 := Int.emod_nonneg (x.tmod (hi - lo + 1)) (show hi - lo + 1 ≠ 0 by omega)
    omega, by
    have t4 := Int.emod_lt_of_pos (x.tmod (hi - lo + 1)) (show 0 < hi - lo + 1 by omega)
    omega, he, hw⟩

end Go.Proofs.Ytcdedefhofkbhaa
