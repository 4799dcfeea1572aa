/- What the functions on numbers return: the rounded quotient of package affine and of the reference, the helpers of the statements. -/
import Derived.Test.YtcdedefhofkbhaaAfLeaf
import Derived.Deep.Draws
namespace Go.Proofs.Ytcdedefhofkbhaa.Af
open Go Go.RowKit
set_option linter.unusedVariables false

/-- The rounded quotient. -/
def rnd (a b : Int) : Int := (2 * a + b) / (2 * b)

theorem tdm (a b : Int) (hb : 1 ≤ b) (h : a < 0) : -(4 * a.tdiv b) ≤ -(4 * a) ∧ a.tdiv b ≤ 0 ∧ a.tmod b ≤ 0 ∧ -b < a.tmod b ∧ a.tmod b = a - b * a.tdiv b ∧
    (a.tmod b < 0 → a / b = a.tdiv b - 1 ∧ a % b = a.tmod b + b) ∧ (¬ a.tmod b < 0 → a / b = a.tdiv b ∧ a % b = a.tmod b) := by
  obtain ⟨n, rfl⟩ : ∃ n : Int, a = -n := ⟨-a, by omega⟩
  have hn : 0 < n := by omega
  rw [Int.neg_tdiv, Int.neg_tmod, Int.tdiv_eq_ediv_of_nonneg (by omega), Int.tmod_eq_emod_of_nonneg (by omega)]
  have e := Int.mul_ediv_add_emod n b
  have r0 := Int.emod_nonneg n (show b ≠ 0 by omega)
  have r1 := Int.emod_lt_of_pos n (show 0 < b by omega)
  have q0 : 0 ≤ n / b := Int.ediv_nonneg (by omega) (by omega)
  have q1 : n / b ≤ n := Int.ediv_le_self _ (by omega)
  have e' : b * (-(n / b)) = -(b * (n / b)) := Int.mul_neg _ _
  refine ⟨by omega, by omega, by omega, by omega, by rw [e']; omega, fun h => ?_, fun h => ?_⟩
  · have u := Int.ediv_emod_unique (a := -n) (b := b) (q := -(n / b) - 1) (r := -(n % b) + b) (by omega)
    obtain ⟨u1, u2⟩ := u.mpr ⟨by rw [Int.mul_sub, e']; omega, by omega, by omega⟩
    exact ⟨u1, u2⟩
  · have u := Int.ediv_emod_unique (a := -n) (b := b) (q := -(n / b)) (r := -(n % b)) (by omega)
    obtain ⟨u1, u2⟩ := u.mpr ⟨by rw [e']; omega, by omega, by omega⟩
    exact ⟨u1, u2⟩

theorem ret1_int {a b : Int} (h : a = b) : Ending.returned (.int .i64 a) = .returned (.int .i64 b) := by rw [h]

/-- A world after some draws. -/
def Drawn (w w' : World) : Prop := ∃ n, w' = w.drewN n
theorem Drawn.refl (w : World) : Drawn w w := ⟨0, rfl⟩
theorem Drawn.drew {w w' : World} (h : Drawn w w') : Drawn w w'.drew := by
  obtain ⟨n, rfl⟩ := h
  exact ⟨n + 1, rfl⟩
theorem Drawn.trans {a b c : World} (h : Drawn a b) (k : Drawn b c) : Drawn a c := by
  obtain ⟨n, rfl⟩ := h
  obtain ⟨m, rfl⟩ := k
  exact ⟨n + m, (World.drewN_drewN ..)⟩

theorem round_any (a b : Int) (w : World) (hb : 1 ≤ b) (hb2 : b ≤ 4398046511104) (ha1 : -2305843009213693952 ≤ a) (ha2 : a ≤ 2305843009213693952) :
    Calls Try.prog 37 #[.int .i64 a, .int .i64 b] w fun e w' => e = .returned (.int .i64 (rnd a b)) ∧ Drawn w w' := by
  by_cases ha : 0 ≤ 2 * a + b
  · have q0 : 0 ≤ (2 * a + b) / (2 * b) := Int.ediv_nonneg (by omega) (by omega)
    have r0 : 0 ≤ (2 * a + b) % (2 * b) := Int.emod_nonneg _ (by omega)
    go_enter Try.func37, Try.ntmps37
    go_wp2
    go_region
    all_goals (go_wp2; go_ret; exact ⟨rfl, by repeat (first | exact Drawn.refl _ | apply Drawn.drew)⟩)
  · obtain ⟨b1, b2, b3, b4, -, b5, b6⟩ := tdm (2 * a + b) (2 * b) (by omega) (by omega)
    have B5 := hid b5
    have B6 := hid b6
    clear b5 b6
    go_enter Try.func37, Try.ntmps37
    go_wp2
    go_region
    all_goals go_wp2
    all_goals go_ret
    · exact ⟨ret1_int (B5.out (by assumption)).1.symm, by repeat (first | exact Drawn.refl _ | apply Drawn.drew)⟩
    · exact ⟨ret1_int (B6.out (by omega)).1.symm, by repeat (first | exact Drawn.refl _ | apply Drawn.drew)⟩

theorem down_any (a b : Int) (w : World) (hb : 1 ≤ b) (ha1 : -4611686018427387904 ≤ a) (ha2 : a ≤ 4611686018427387904) (hb2 : b ≤ 4611686018427387904) :
    Calls Try.prog 55 #[.int .i64 a, .int .i64 b] w fun e w' => e = .returned (.int .i64 (a / b)) ∧ w = w' := by
  by_cases ha : 0 ≤ a
  · have r0 : 0 ≤ a % b := Int.emod_nonneg a (by omega)
    have r1 : a % b ≤ a := by
      have e := Int.mul_ediv_add_emod a b
      have q0 : 0 ≤ b * (a / b) := Int.mul_nonneg (by omega) (Int.ediv_nonneg (by omega) (by omega))
      omega
    go_enter Try.func55, Try.ntmps55
    go_wp2
    go_ret
    exact ⟨ret1_int (by
      have e := Int.mul_ediv_add_emod a b
      rw [show a - a % b = b * (a / b) by omega, Int.mul_ediv_cancel_left _ (by omega)]), rfl⟩
  · obtain ⟨b1, b2, b3, b4, e0, b5, b6⟩ := tdm a b hb (by omega)
    have B5 := hid b5
    have B6 := hid b6
    have E0 := hid e0
    clear b5 b6 e0
    go_enter Try.func55, Try.ntmps55
    go_wp2
    all_goals go_ret
    · refine ⟨ret1_int ?_, rfl⟩
      rw [(B5.out (by assumption)).1, show a - (a.tmod b + b) = b * (a.tdiv b - 1) by rw [Int.mul_sub]; have := E0.out; omega, Int.mul_tdiv_cancel_left _ (by omega)]
    · refine ⟨ret1_int ?_, rfl⟩
      rw [(B6.out (by omega)).1, show a - a.tmod b = b * a.tdiv b by have := E0.out; omega, Int.mul_tdiv_cancel_left _ (by omega)]

theorem rnd_at (a b : Int) (hb : 1 ≤ b) : (b ≤ 2 * (a % b) → rnd a b = a / b + 1) ∧ (2 * (a % b) < b → rnd a b = a / b) := by
  have e := Int.mul_ediv_add_emod a b
  have r0 := Int.emod_nonneg a (show b ≠ 0 by omega)
  have r1 := Int.emod_lt_of_pos a (show 0 < b by omega)
  have m1 : 2 * b * (a / b) = 2 * (b * (a / b)) := Int.mul_assoc _ _ _
  have m2 : 2 * b * (a / b + 1) = 2 * (b * (a / b)) + 2 * b := by rw [Int.mul_add, m1, Int.mul_one]
  refine ⟨fun h => ?_, fun h => ?_⟩
  · exact (Int.ediv_emod_unique (a := 2 * a + b) (b := 2 * b) (q := a / b + 1) (r := 2 * (a % b) - b) (by omega)).mpr ⟨by rw [m2]; omega, by omega, by omega⟩ |>.1
  · exact (Int.ediv_emod_unique (a := 2 * a + b) (b := 2 * b) (q := a / b) (r := 2 * (a % b) + b) (by omega)).mpr ⟨by rw [m1]; omega, by omega, by omega⟩ |>.1

def ab (x : Int) : Int := max x (-x)
theorem ab_is (x : Int) : (0 ≤ x → ab x = x) ∧ (x ≤ 0 → ab x = -x) := by unfold ab; omega
theorem cut_val (x lo hi : Int) (w : World) (h : lo ≤ hi) (hn : hi - lo < 4611686018427387904) (hl : -4611686018427387904 ≤ lo) (hh : hi ≤ 4611686018427387904) :
    Calls Try.prog 11 #[.int .i64 x, .int .i64 lo, .int .i64 hi] w fun e w' => e = .returned (.int .i64 (lo + x.tmod (hi - lo + 1) % (hi - lo + 1))) ∧ w = w' := by
  have t1 := Int.lt_tmod_of_pos x (show 0 < hi - lo + 1 by omega)
  have t2 := Int.tmod_lt_of_pos x (show 0 < hi - lo + 1 by omega)
  have t3 := Int.emod_nonneg (x.tmod (hi - lo + 1)) (show hi - lo + 1 ≠ 0 by omega)
  have t4 := Int.emod_lt_of_pos (x.tmod (hi - lo + 1)) (show 0 < hi - lo + 1 by omega)
  go_enter Try.func11, Try.ntmps11
  go_wp2
  go_ret
  exact ⟨rfl, rfl⟩

def InCut (lo hi : Int) (w : World) (e : Ending) (w' : World) : Prop := ∃ c : Int, lo ≤ c ∧ c ≤ hi ∧ e = .returned (.int .i64 c) ∧ w = w'

theorem cut_in (x lo hi : Int) (w : World) (h : lo ≤ hi) (hn : hi - lo < 4611686018427387904) (hl : -4611686018427387904 ≤ lo) (hh : hi ≤ 4611686018427387904) :
    Calls Try.prog 11 #[.int .i64 x, .int .i64 lo, .int .i64 hi] w (InCut lo hi w) :=
  (cut_val x lo hi w h hn hl hh).mono fun e w' ⟨he, hw⟩ => ⟨_, by
    have t3 := Int.emod_nonneg (x.tmod (hi - lo + 1)) (show hi - lo + 1 ≠ 0 by omega)
    omega, by
    have t4 := Int.emod_lt_of_pos (x.tmod (hi - lo + 1)) (show 0 < hi - lo + 1 by omega)
    omega, he, hw⟩

end Go.Proofs.Ytcdedefhofkbhaa.Af
