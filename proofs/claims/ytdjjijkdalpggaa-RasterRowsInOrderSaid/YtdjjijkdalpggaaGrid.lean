/- What Check, pixel and row of a raster return. -/
import Derived.Test.YtdjjijkdalpggaaLeaf
namespace Go.Proofs.Ytdjjijkdalpggaa
open Go Go.RowKit
set_option linter.unusedVariables false

/-- A raster's value. -/
abbrev grid (W H : Int) (p : Value) : Value := .agg #[.int .i64 W, .int .i64 H, p]

/-- n pixels lie in block g from off on: the values of f. -/
def Px (w : World) (g off n : Nat) (f : Nat → Int) : Prop := ∀ i, i < n → w.cell? ⟨g, off + i, none⟩ = some (.int .u8 (f i))

theorem mul_bds {a b A B : Int} (h1 : 0 ≤ a) (h2 : a ≤ A) (h3 : 0 ≤ b) (h4 : b ≤ B) : 0 ≤ a * b ∧ a * b ≤ A * B :=
  ⟨Int.mul_nonneg h1 h3, Int.mul_le_mul h2 h4 h3 (by omega)⟩

theorem pixel_any (W H x y : Int) (g n c : Nat) (f : Nat → Int) (w : World) (hp : Px w g 0 n f) (hW : 1 ≤ W ∧ W ≤ 1024) (hy : 0 ≤ y ∧ y ≤ 1024) (hx : 0 ≤ x ∧ x ≤ 1024) (hn : y * W + x < n) (hg : g < w.heap.size) :
    Calls Try.prog 35 #[grid W H (.slice (some ⟨g, 0, none⟩) n c), .int .i64 x, .int .i64 y] w fun e w' => e = .returned (.int .u8 (f (y * W + x).toNat)) ∧ Below w.heap.size w w' := by
  obtain ⟨m1, m2⟩ := mul_bds hy.1 hy.2 (show 0 ≤ W by omega) hW.2
  have hc := hp (y * W + x).toNat (by omega)
  rw [Nat.zero_add] at hc
  clear hp
  obtain ⟨p, ep⟩ : ∃ p, p = y * W := ⟨_, rfl⟩
  go_enter Try.func35, Try.ntmps35
  go_wp2
  go_ret
  exact ⟨rfl, (Below.refl _ _).alloc (Nat.le_refl _) _⟩

theorem check_ok (W H : Int) (a : Option Addr) (n c : Nat) (w : World) (h1 : 1 ≤ W ∧ W ≤ 1024) (h2 : 1 ≤ H ∧ H ≤ 1024) (hn : (n : Int) = W * H) :
    Calls Try.prog 25 #[grid W H (.slice a n c)] w fun e w' => e = .returned (.int .i64 0) ∧ Below w.heap.size w w' := by
  have b1 := btw_yes h1
  have b2 := btw_yes h2
  obtain ⟨m1, m2⟩ := mul_bds (show 0 ≤ W by omega) h1.2 (show 0 ≤ H by omega) h2.2
  have hne : ((n : Int) != W * H) = false := by simp [hn]
  clear hn
  go_enter Try.func25, Try.ntmps25
  go_wp2_with (go_at_call 45; (with_reducible refine (side_any _ _).mono ?_); rintro e w' ⟨rfl, rfl⟩)
  go_ret
  exact ⟨rfl, (Below.refl _ _).alloc (Nat.le_refl _) _⟩

theorem check_form (W H : Int) (a : Option Addr) (n c : Nat) (w : World) (h1 : 1 ≤ W ∧ W ≤ 1024) (h2 : 1 ≤ H ∧ H ≤ 1024) (hn : (n : Int) ≠ W * H) :
    Calls Try.prog 25 #[grid W H (.slice a n c)] w fun e w' => e = .returned (.int .i64 4) ∧ Below w.heap.size w w' := by
  have b1 := btw_yes h1
  have b2 := btw_yes h2
  obtain ⟨m1, m2⟩ := mul_bds (show 0 ≤ W by omega) h1.2 (show 0 ≤ H by omega) h2.2
  have hne : ((n : Int) != W * H) = true := by simp [hn]
  clear hn
  go_enter Try.func25, Try.ntmps25
  go_wp2_with (go_at_call 45; (with_reducible refine (side_any _ _).mono ?_); rintro e w' ⟨rfl, rfl⟩)
  go_ret
  exact ⟨rfl, (Below.refl _ _).alloc (Nat.le_refl _) _⟩

theorem check_range (W H : Int) (p : Value) (w : World) (h : ¬ ((1 ≤ W ∧ W ≤ 1024) ∧ (1 ≤ H ∧ H ≤ 1024))) :
    Calls Try.prog 25 #[grid W H p] w fun e w' => e = .returned (.int .i64 3) ∧ Below w.heap.size w w' := by
  by_cases h1 : 1 ≤ W ∧ W ≤ 1024
  · have b1 := btw_yes h1
    have b2 := btw_no (fun k => h ⟨h1, k⟩)
    clear h h1
    go_enter Try.func25, Try.ntmps25
    go_wp2_with (go_at_call 45; (with_reducible refine (side_any _ _).mono ?_); rintro e w' ⟨rfl, rfl⟩)
    go_ret
    exact ⟨rfl, (Below.refl _ _).alloc (Nat.le_refl _) _⟩
  · have b1 := btw_no h1
    clear h h1
    go_enter Try.func25, Try.ntmps25
    go_wp2_with (go_at_call 45; (with_reducible refine (side_any _ _).mono ?_); rintro e w' ⟨rfl, rfl⟩)
    go_ret
    exact ⟨rfl, (Below.refl _ _).alloc (Nat.le_refl _) _⟩

/-- A row's slice. -/
theorem row_any (W H y : Int) (g n c : Nat) (w : World) (hW : 1 ≤ W ∧ W ≤ 1024) (hy : 0 ≤ y ∧ y ≤ 1024) (hn : y * W + W ≤ n) (hc : n ≤ c) (hm : c ≤ 9223372036854775807) :
    Calls Try.prog 40 #[grid W H (.slice (some ⟨g, 0, none⟩) n c), .int .i64 y] w fun e w' => e = .returned (.slice (some ⟨g, (y * W).toNat, none⟩) W.toNat (c - (y * W).toNat)) ∧ Below w.heap.size w w' := by
  obtain ⟨m1, m2⟩ := mul_bds hy.1 hy.2 (show 0 ≤ W by omega) hW.2
  have e1 : (y + 1) * W = y * W + W := by rw [Int.add_mul, Int.one_mul]
  have e2 : (y * W + W).toNat - (y * W).toNat = W.toNat := by omega
  have E2 := hid e2
  clear e2
  go_enter Try.func40, Try.ntmps40
  go_wp2
  go_ret
  refine ⟨?_, (Below.refl _ _).alloc (Nat.le_refl _) _⟩
  show Ending.returned (.slice _ ((y * W + W).toNat - (y * W).toNat) _) = _
  rw [E2.out]

end Go.Proofs.Ytdjjijkdalpggaa
