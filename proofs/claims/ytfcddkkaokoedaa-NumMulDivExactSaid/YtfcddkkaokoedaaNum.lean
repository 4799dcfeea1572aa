/- What the functions of package num return, said of their arguments; the world they leave has at most new blocks. -/
import Derived.Test.YtfcddkkaokoedaaRows
import Derived.WalkKit
import Derived.WalkSpells
import Derived.RegionTactic
namespace Go.Proofs.Ytfcddkkaokoedaa
open Go Go.RowKit

theorem hid {p : Prop} (h : p) : Hid p := h

theorem grown_trans {a b c : World} (h : Grown a b) (k : Grown b c) : Grown a c :=
  ⟨World.keptBut_trans h.1 k.1, fun x => (k.2.1 x).trans (h.2.1 x), Nat.le_trans h.2.2 k.2.2⟩

set_option maxHeartbeats 400000 in
theorem inRange_yes (zs : List Int) (b off cap : Nat) (w : World) (hl : zs.length ≤ 3)
    (hc : ∀ i, i < zs.length → w.cell? ⟨b, off + i, none⟩ = some (.int .i64 (zs.getD i 0)))
    (hr : ∀ i, i < zs.length → -1099511627776 ≤ zs.getD i 0 ∧ zs.getD i 0 ≤ 1099511627776) :
    Calls Try.prog 37 #[.slice (some ⟨b, off, none⟩) zs.length cap] w fun e w' => e = .returned (.bool true) ∧ w = w' := by
  have HC := hid hc
  have HR := hid hr
  clear hc hr
  go_enter Try.func37, Try.ntmps37
  go_wp2
  go_loop [7] (fun i => ∃ k : Nat, k ≤ zs.length ∧ i = .int .i64 k) (fun i => zs.length - (intOf i).toNat)
  case atStart => exact ⟨0, Nat.zero_le _, rfl⟩
  case round =>
    obtain ⟨k, hk, rfl⟩ := hrel
    by_cases hlt : k < zs.length
    · have hcell := HC.out k hlt
      have h1 := (HR.out k hlt).1
      have h2 := (HR.out k hlt).2
      clear HC HR
      generalize zs.getD k 0 = x at hcell h1 h2
      go_wp2
      go_round
      case rel => exact ⟨k + 1, by omega, by go_num⟩
      case measure => simp [intOf]; omega
    · go_wp2
      go_ret
      exact ⟨rfl, rfl⟩

set_option maxHeartbeats 400000 in
theorem inRange_no (zs : List Int) (b off cap : Nat) (w : World) (hl : zs.length ≤ 3)
    (hc : ∀ i, i < zs.length → w.cell? ⟨b, off + i, none⟩ = some (.int .i64 (zs.getD i 0)))
    (hr : ¬ ∀ i, i < zs.length → -1099511627776 ≤ zs.getD i 0 ∧ zs.getD i 0 ≤ 1099511627776) :
    Calls Try.prog 37 #[.slice (some ⟨b, off, none⟩) zs.length cap] w fun e w' => e = .returned (.bool false) ∧ w = w' := by
  have HC := hid hc
  have HR := hid hr
  clear hc hr
  go_enter Try.func37, Try.ntmps37
  go_wp2
  go_loop [7] (fun i => ∃ k : Nat, k ≤ zs.length ∧ i = .int .i64 k ∧ Hid (∀ j, j < k → -1099511627776 ≤ zs.getD j 0 ∧ zs.getD j 0 ≤ 1099511627776)) (fun i => zs.length - (intOf i).toNat)
  case atStart => exact ⟨0, Nat.zero_le _, rfl, hid (fun j hj => absurd hj (Nat.not_lt_zero j))⟩
  case round =>
    obtain ⟨k, hk, rfl, hp⟩ := hrel
    by_cases hlt : k < zs.length
    · have hcell := HC.out k hlt
      by_cases hin : -1099511627776 ≤ zs.getD k 0 ∧ zs.getD k 0 ≤ 1099511627776
      · have h1 := hin.1
        have h2 := hin.2
        have HIN := hid hin
        clear hin
        generalize zs.getD k 0 = x at hcell h1 h2
        go_wp2
        go_round
        case rel => exact ⟨k + 1, by omega, by go_num, hid (fun j hj => by
          by_cases e : j = k
          · subst e; exact HIN.out
          · exact hp.out j (by omega))⟩
        case measure => simp [intOf]; omega
      · clear HC HR hp
        generalize zs.getD k 0 = x at hcell hin
        by_cases hlo : x < -1099511627776
        · clear hin
          go_wp2
          go_ret
          exact ⟨rfl, rfl⟩
        · have hhi : 1099511627776 < x := by omega
          clear hin
          go_wp2
          go_ret
          exact ⟨rfl, rfl⟩
    · exact absurd (fun i hi => hp.out i (by omega)) HR.out

/-- All of a list are numbers of the package. -/
def Ins (zs : List Int) : Prop := ∀ i, i < zs.length → -1099511627776 ≤ zs.getD i 0 ∧ zs.getD i 0 ≤ 1099511627776

/-- A slice's cells hold a list. -/
def Lies (w : World) (b off : Nat) (zs : List Int) : Prop := ∀ i, i < zs.length → w.cell? ⟨b, off + i, none⟩ = some (.int .i64 (zs.getD i 0))

theorem chk_range (d : Int) (zs : List Int) (b off cap : Nat) (w : World) (hl : zs.length ≤ 3) (hc : Lies w b off zs) (hr : ¬ Ins zs) :
    Calls Try.prog 30 #[.int .i64 d, .slice (some ⟨b, off, none⟩) zs.length cap] w fun e w' => e = .returned (.int .i64 3) ∧ w = w' := by
  have c := inRange_no zs b off cap w hl hc hr
  clear hc hr
  go_enter Try.func30, Try.ntmps30
  go_wp2_with (go_at_call 37; refine c.mono ?_; rintro e w' ⟨rfl, rfl⟩)
  go_ret
  exact ⟨rfl, rfl⟩

theorem chk_arg (d : Int) (zs : List Int) (b off cap : Nat) (w : World) (hl : zs.length ≤ 3) (hc : Lies w b off zs) (hr : Ins zs) (hd : d < 1) :
    Calls Try.prog 30 #[.int .i64 d, .slice (some ⟨b, off, none⟩) zs.length cap] w fun e w' => e = .returned (.int .i64 1) ∧ w = w' := by
  have c := inRange_yes zs b off cap w hl hc hr
  clear hc hr
  go_enter Try.func30, Try.ntmps30
  go_wp2_with (go_at_call 37; refine c.mono ?_; rintro e w' ⟨rfl, rfl⟩)
  go_ret
  exact ⟨rfl, rfl⟩

theorem chk_ok (d : Int) (zs : List Int) (b off cap : Nat) (w : World) (hl : zs.length ≤ 3) (hc : Lies w b off zs) (hr : Ins zs) (hd : 1 ≤ d) :
    Calls Try.prog 30 #[.int .i64 d, .slice (some ⟨b, off, none⟩) zs.length cap] w fun e w' => e = .returned (.int .i64 0) ∧ w = w' := by
  have c := inRange_yes zs b off cap w hl hc hr
  clear hc hr
  go_enter Try.func30, Try.ntmps30
  go_wp2_with (go_at_call 37; refine c.mono ?_; rintro e w' ⟨rfl, rfl⟩)
  go_ret
  exact ⟨rfl, rfl⟩

theorem tdm (a b : Int) (hb : 1 ≤ b) (h : a < 0) : -(4 * a.tdiv b) ≤ -(4 * a) ∧ a.tdiv b ≤ 0 ∧ a.tmod b ≤ 0 ∧ -b < a.tmod b ∧ a.tmod b = a - b * a.tdiv b ∧
    (a.tmod b < 0 → a / b = a.tdiv b - 1 ∧ a % b = a.tmod b + b) ∧ (¬ a.tmod b < 0 → a / b = a.tdiv b ∧ a % b = a.tmod b) := by
  obtain ⟨n, rfl⟩ : ∃ n : Int, a = -n := ⟨-a, by omega⟩
  have hn : 0 < n := by omega
  rw [Int.neg_tdiv, Int.neg_tmod, Int.tdiv_eq_ediv_of_nonneg (by omega), Int.tmod_eq_emod_of_nonneg (by omega)]
  have e := Int.mul_ediv_add_emod n b
  have r0 := Int.emod_nonneg n (show b ≠ 0 by omega)
  have r1 := Int.emod_lt_of_pos n (show 0 < b by omega)
  have q0 : 0 ≤ n / b := Int.ediv_nonneg (by omega) (by omega)
  have q1 : n / b ≤ n := Int.ediv_le_self _ (by omega)
  have e' : b * (-(n / b)) = -(b * (n / b)) := Int.mul_neg _ _
  refine ⟨by omega, by omega, by omega, by omega, by rw [e']; omega, fun h => ?_, fun h => ?_⟩
  · have u := Int.ediv_emod_unique (a := -n) (b := b) (q := -(n / b) - 1) (r := -(n % b) + b) (by omega)
    obtain ⟨u1, u2⟩ := u.mpr ⟨by rw [Int.mul_sub, e']; omega, by omega, by omega⟩
    exact ⟨u1, u2⟩
  · have u := Int.ediv_emod_unique (a := -n) (b := b) (q := -(n / b)) (r := -(n % b)) (by omega)
    obtain ⟨u1, u2⟩ := u.mpr ⟨by rw [e']; omega, by omega, by omega⟩
    exact ⟨u1, u2⟩

theorem ret2_int {a b c d : Int} (h : a = c) (k : b = d) : Ending.returned (.tuple #[.int .i64 a, .int .i64 b]) = .returned (.tuple #[.int .i64 c, .int .i64 d]) := by rw [h, k]

theorem floor2 (a b : Int) (w : World) (hb : 1 ≤ b) (ha1 : -4000000000000 ≤ a) (ha2 : a ≤ 4000000000000) (hb2 : b ≤ 4000000000000) :
    Calls Try.prog 31 #[.int .i64 a, .int .i64 b] w fun e w' => e = .returned (.tuple #[.int .i64 (a / b), .int .i64 (a % b)]) ∧ Grown w w' := by
  by_cases ha : 0 ≤ a
  · have q0 : 0 ≤ a / b := Int.ediv_nonneg (by omega) (by omega)
    have r0 : 0 ≤ a % b := Int.emod_nonneg a (by omega)
    go_enter Try.func31, Try.ntmps31
    go_wp2
    go_region
    all_goals (go_wp2; go_ret2; exact ⟨rfl, by repeat (first | exact Grown.refl _ | apply Grown.drew | apply Grown.alloc)⟩)
  · obtain ⟨b1, b2, b3, b4, -, b5, b6⟩ := tdm a b hb (by omega)
    have B5 := hid b5
    have B6 := hid b6
    clear b5 b6
    go_enter Try.func31, Try.ntmps31
    go_wp2
    go_region
    all_goals go_wp2
    all_goals go_ret2
    · exact ⟨ret2_int (B5.out (by assumption)).1.symm (B5.out (by assumption)).2.symm, by repeat (first | exact Grown.refl _ | apply Grown.drew | apply Grown.alloc)⟩
    · exact ⟨ret2_int (B6.out (by omega)).1.symm (B6.out (by omega)).2.symm, by repeat (first | exact Grown.refl _ | apply Grown.drew | apply Grown.alloc)⟩

theorem lies2 (a b : Int) (w : World) : Lies (w.alloc (.cells #[.int .i64 a, .int .i64 b] 3)) w.heap.size 0 [a, b] := by
  intro i hi
  match i, hi with
  | 0, _ => simp
  | 1, _ => simp

theorem lies3 (a b c : Int) (w : World) : Lies (w.alloc (.cells #[.int .i64 a, .int .i64 b, .int .i64 c] 3)) w.heap.size 0 [a, b, c] := by
  intro i hi
  match i, hi with
  | 0, _ => simp
  | 1, _ => simp
  | 2, _ => simp

theorem ins2 {a b : Int} : Ins [a, b] ↔ (-1099511627776 ≤ a ∧ a ≤ 1099511627776) ∧ (-1099511627776 ≤ b ∧ b ≤ 1099511627776) :=
  ⟨fun h => ⟨h 0 (by simp), h 1 (by simp)⟩, fun h i hi => match i, hi with
    | 0, _ => h.1
    | 1, _ => h.2⟩

theorem ins3 {a b c : Int} : Ins [a, b, c] ↔ (-1099511627776 ≤ a ∧ a ≤ 1099511627776) ∧ (-1099511627776 ≤ b ∧ b ≤ 1099511627776) ∧ (-1099511627776 ≤ c ∧ c ≤ 1099511627776) :=
  ⟨fun h => ⟨h 0 (by simp), h 1 (by simp), h 2 (by simp)⟩, fun h i hi => match i, hi with
    | 0, _ => h.1
    | 1, _ => h.2.1
    | 2, _ => h.2.2⟩

theorem chk2 (r d a b : Int) (w : World) (h : (¬ Ins [a, b] ∧ r = 3) ∨ (Ins [a, b] ∧ d < 1 ∧ r = 1) ∨ (Ins [a, b] ∧ 1 ≤ d ∧ r = 0)) :
    Calls Try.prog 30 #[.int .i64 d, .slice (some ⟨w.heap.size, 0, none⟩) 2 2] (w.alloc (.cells #[.int .i64 a, .int .i64 b] 3)) fun e w' => e = .returned (.int .i64 r) ∧ (w.alloc (.cells #[.int .i64 a, .int .i64 b] 3)) = w' := by
  rcases h with ⟨h, rfl⟩ | ⟨h, h2, rfl⟩ | ⟨h, h2, rfl⟩
  · exact chk_range d [a, b] _ 0 2 _ (by simp) (lies2 a b w) h
  · exact chk_arg d [a, b] _ 0 2 _ (by simp) (lies2 a b w) h h2
  · exact chk_ok d [a, b] _ 0 2 _ (by simp) (lies2 a b w) h h2

theorem chk3 (r d a b c : Int) (w : World) (h : (¬ Ins [a, b, c] ∧ r = 3) ∨ (Ins [a, b, c] ∧ d < 1 ∧ r = 1) ∨ (Ins [a, b, c] ∧ 1 ≤ d ∧ r = 0)) :
    Calls Try.prog 30 #[.int .i64 d, .slice (some ⟨w.heap.size, 0, none⟩) 3 3] (w.alloc (.cells #[.int .i64 a, .int .i64 b, .int .i64 c] 3)) fun e w' => e = .returned (.int .i64 r) ∧ (w.alloc (.cells #[.int .i64 a, .int .i64 b, .int .i64 c] 3)) = w' := by
  rcases h with ⟨h, rfl⟩ | ⟨h, h2, rfl⟩ | ⟨h, h2, rfl⟩
  · exact chk_range d [a, b, c] _ 0 3 _ (by simp) (lies3 a b c w) h
  · exact chk_arg d [a, b, c] _ 0 3 _ (by simp) (lies3 a b c w) h h2
  · exact chk_ok d [a, b, c] _ 0 3 _ (by simp) (lies3 a b c w) h h2

theorem floor_no (r a b : Int) (w : World) (h : (¬ Ins [a, b] ∧ r = 3) ∨ (Ins [a, b] ∧ b < 1 ∧ r = 1)) :
    Calls Try.prog 14 #[.int .i64 a, .int .i64 b] w fun e w' => e = .returned (.tuple #[.int .i64 0, .int .i64 0, .int .i64 r]) ∧ Grown w w' := by
  have c := chk2 r b a b w (by rcases h with h | h; exact .inl h; exact .inr (.inl h))
  have hr : (r == 0) = false := by rcases h with ⟨-, rfl⟩ | ⟨-, -, rfl⟩ <;> rfl
  clear h
  go_enter Try.func14, Try.ntmps14
  go_wp2_with (go_at_call 30; refine c.mono ?_; rintro e w' ⟨rfl, rfl⟩)
  go_ret3
  exact ⟨rfl, by repeat (first | exact Grown.refl _ | apply Grown.drew | apply Grown.alloc)⟩

theorem floor_ok (a b : Int) (w : World) (h : Ins [a, b]) (hb : 1 ≤ b) :
    Calls Try.prog 14 #[.int .i64 a, .int .i64 b] w fun e w' => e = .returned (.tuple #[.int .i64 (a / b), .int .i64 (a % b), .int .i64 0]) ∧ Grown w w' := by
  have c := chk2 0 b a b w (.inr (.inr ⟨h, hb, rfl⟩))
  obtain ⟨⟨h1, h2⟩, h3, h4⟩ := ins2.mp h
  clear h
  go_enter Try.func14, Try.ntmps14
  go_wp2_with (first | (go_at_call 30; refine c.mono ?_; rintro e w' ⟨rfl, rfl⟩) | (go_at_call 31; refine (floor2 a b _ (by omega) (by omega) (by omega) (by omega)).mono ?_; rintro e w' ⟨rfl, hg⟩))
  go_ret3
  exact ⟨rfl, grown_trans (by repeat (first | exact Grown.refl _ | apply Grown.drew | apply Grown.alloc)) hg⟩

theorem round_no (r a b : Int) (w : World) (h : (¬ Ins [a, b] ∧ r = 3) ∨ (Ins [a, b] ∧ b < 1 ∧ r = 1)) :
    Calls Try.prog 16 #[.int .i64 a, .int .i64 b] w fun e w' => e = .returned (.tuple #[.int .i64 0, .int .i64 r]) ∧ Grown w w' := by
  have c := chk2 r b a b w (by rcases h with h | h; exact .inl h; exact .inr (.inl h))
  have hr : (r == 0) = false := by rcases h with ⟨-, rfl⟩ | ⟨-, -, rfl⟩ <;> rfl
  clear h
  go_enter Try.func16, Try.ntmps16
  go_wp2_with (go_at_call 30; refine c.mono ?_; rintro e w' ⟨rfl, rfl⟩)
  go_ret2
  exact ⟨rfl, by repeat (first | exact Grown.refl _ | apply Grown.drew | apply Grown.alloc)⟩

theorem round_ok (a b : Int) (w : World) (h : Ins [a, b]) (hb : 1 ≤ b) :
    Calls Try.prog 16 #[.int .i64 a, .int .i64 b] w fun e w' => e = .returned (.tuple #[.int .i64 ((2 * a + b) / (2 * b)), .int .i64 0]) ∧ Grown w w' := by
  have c := chk2 0 b a b w (.inr (.inr ⟨h, hb, rfl⟩))
  obtain ⟨⟨h1, h2⟩, h3, h4⟩ := ins2.mp h
  clear h
  go_enter Try.func16, Try.ntmps16
  go_wp2_with (first | (go_at_call 30; refine c.mono ?_; rintro e w' ⟨rfl, rfl⟩) | (go_at_call 31; refine (floor2 (2 * a + b) (2 * b) _ (by omega) (by omega) (by omega) (by omega)).mono ?_; rintro e w' ⟨rfl, hg⟩))
  go_ret2
  exact ⟨rfl, grown_trans (by repeat (first | exact Grown.refl _ | apply Grown.drew | apply Grown.alloc)) hg⟩

end Go.Proofs.Ytfcddkkaokoedaa
