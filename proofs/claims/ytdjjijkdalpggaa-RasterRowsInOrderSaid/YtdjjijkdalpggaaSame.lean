/- What slices.Equal, SameBytes and same return at equal rows: true. -/
import Derived.Test.YtdjjijkdalpggaaTurn
import Derived.Test.YtdjjijkdalpggaaSmall
namespace Go.Proofs.Ytdjjijkdalpggaa
open Go Go.RowKit
set_option linter.unusedVariables false

set_option maxHeartbeats 1000000 in
theorem equal_yes (g o c g' o' c' n : Nat) (f : Nat → Int) (w : World) (hp : Px w g o n f) (hp' : Px w g' o' n f) (hn : n ≤ 4194304) :
    Calls Try.prog 41 #[.slice (some ⟨g, o, none⟩) n c, .slice (some ⟨g', o', none⟩) n c'] w fun e w' => e = .returned (.bool true) ∧ Below w.heap.size w w' := by
  have HP := hid hp
  have HP' := hid hp'
  clear hp hp'
  go_enter Try.func41, Try.ntmps41
  go_wp2_with fail
  go_loopw [5, 13] (fun _ s13 wr => ∃ k : Nat, k ≤ n ∧ s13 = .int .i64 k ∧ Hid (∃ q, wr = w.drewN q)) (fun _ s13 _ => n - (intOf s13).toNat)
  case atStart => exact ⟨0, Nat.zero_le _, rfl, hid ⟨0, rfl⟩⟩
  case round =>
    obtain ⟨k, hk, rfl, HQ⟩ := hrel
    by_cases hlt : k < n
    · have hc : wr.cell? ⟨g, o + k, none⟩ = some (.int .u8 (f k)) := by obtain ⟨q, rfl⟩ := HQ.out; exact HP.out k hlt
      have hc' : wr.cell? ⟨g', o' + k, none⟩ = some (.int .u8 (f k)) := by obtain ⟨q, rfl⟩ := HQ.out; exact HP'.out k hlt
      have hk0 : (0 : Int) ≤ (k : Int) := by omega
      have hk1 : (k : Int) < (n : Int) := by omega
      have hneq : (f k != f k) = false := by simp
      go_wp2
      go_quiet (fail)
      rename_i nq
      go_wp2
      go_roundw
      case rel => exact ⟨k + 1, by omega, by go_num, hid (by obtain ⟨q, rfl⟩ := HQ.out; exact ⟨q + nq, World.drewN_drewN _ _ _⟩)⟩
      case measure => simp [intOf]; omega
    · go_wp2
      go_ret
      obtain ⟨q, rfl⟩ := HQ.out
      exact ⟨rfl, below_drewN (Below.refl _ _) _⟩

set_option maxHeartbeats 1000000 in
theorem bytes_yes (g o c g' o' c' n : Nat) (f : Nat → Int) (w : World) (hp : Px w g o n f) (hp' : Px w g' o' n f) (hn : n ≤ 4194304) :
    Calls Try.prog 32 #[.slice (some ⟨g, o, none⟩) n c, .slice (some ⟨g', o', none⟩) n c'] w fun e w' => e = .returned (.bool true) ∧ Below w.heap.size w w' := by
  have HP := hid hp
  have HP' := hid hp'
  clear hp hp'
  go_enter Try.func32, Try.ntmps32
  go_wp2_with fail
  go_loopw [5, 13] (fun _ s13 wr => ∃ k : Nat, k ≤ n ∧ s13 = .int .i64 k ∧ Hid (∃ q, wr = w.drewN q)) (fun _ s13 _ => n - (intOf s13).toNat)
  case atStart => exact ⟨0, Nat.zero_le _, rfl, hid ⟨0, rfl⟩⟩
  case round =>
    obtain ⟨k, hk, rfl, HQ⟩ := hrel
    by_cases hlt : k < n
    · have hc : wr.cell? ⟨g, o + k, none⟩ = some (.int .u8 (f k)) := by obtain ⟨q, rfl⟩ := HQ.out; exact HP.out k hlt
      have hc' : wr.cell? ⟨g', o' + k, none⟩ = some (.int .u8 (f k)) := by obtain ⟨q, rfl⟩ := HQ.out; exact HP'.out k hlt
      have hk0 : (0 : Int) ≤ (k : Int) := by omega
      have hk1 : (k : Int) < (n : Int) := by omega
      have hneq : (f k != f k) = false := by simp
      go_wp2
      go_quiet (fail)
      rename_i nq
      go_wp2
      go_roundw
      case rel => exact ⟨k + 1, by omega, by go_num, hid (by obtain ⟨q, rfl⟩ := HQ.out; exact ⟨q + nq, World.drewN_drewN _ _ _⟩)⟩
      case measure => simp [intOf]; omega
    · go_wp2
      go_ret
      obtain ⟨q, rfl⟩ := HQ.out
      exact ⟨rfl, below_drewN (Below.refl _ _) _⟩

theorem same_yes (W H : Int) (g c g' c' n : Nat) (f : Nat → Int) (w : World) (hp : Px w g 0 n f) (hp' : Px w g' 0 n f) (hn : n ≤ 4194304) (hg : g < w.heap.size) (hg' : g' < w.heap.size) :
    Calls Try.prog 17 #[grid W H (.slice (some ⟨g, 0, none⟩) n c), grid W H (.slice (some ⟨g', 0, none⟩) n c')] w fun e w' => e = .returned (.bool true) ∧ Below w.heap.size w w' := by
  have HP := hid hp
  have HP' := hid hp'
  have k1 : (W == W) = true := by simp
  have k2 : (H == H) = true := by simp
  clear hp hp'
  go_enter Try.func17, Try.ntmps17
  go_wp2_with fail
  (with_reducible refine (equal_yes g 0 c g' 0 c' n f _ ?_ ?_ hn).mono ?_)
  · exact HP.out.below (by repeat first | exact Below.refl _ _ | apply Below.drew | refine Below.alloc ?_ (by first | omega | simp) _) hg
  · exact HP'.out.below (by repeat first | exact Below.refl _ _ | apply Below.drew | refine Below.alloc ?_ (by first | omega | simp) _) hg'
  rintro e w1 ⟨rfl, hb1⟩
  go_wp2
  go_ret
  exact ⟨rfl, Below.trans (by repeat first | exact Below.refl _ _ | apply Below.drew | refine Below.alloc ?_ (by first | omega | simp) _) (hb1.mono (by simp; omega))⟩

end Go.Proofs.Ytdjjijkdalpggaa
