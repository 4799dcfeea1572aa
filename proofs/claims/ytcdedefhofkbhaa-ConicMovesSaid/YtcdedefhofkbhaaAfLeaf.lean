/- What the small functions of package affine, of the reference and of the statements return. -/
import Derived.Test.YtcdedefhofkbhaaRows
import Derived.WalkKit
import Derived.WalkSpells
import Derived.RegionTactic
import Derived.Deep.QuietTactic
import Derived.BigQuiet
import Derived.Lib.Hide
namespace Go.Proofs.Ytcdedefhofkbhaa.Af
open Go Go.RowKit
set_option linter.unusedVariables false

theorem hid {p : Prop} (h : p) : Hid p := h

theorem grown_trans {a b c : World} (h : Grown a b) (k : Grown b c) : Grown a c :=
  ⟨World.keptBut_trans h.1 k.1, fun x => (k.2.1 x).trans (h.2.1 x), Nat.le_trans h.2.2 k.2.2⟩

/-- A map and a point as values. -/
abbrev mx (a b c d e f : Int) : Value := .agg #[.int .i64 a, .int .i64 b, .int .i64 c, .int .i64 d, .int .i64 e, .int .i64 f]
abbrev pt (x y : Int) : Value := .agg #[.int .i64 x, .int .i64 y]

/-- All numbers of a list are within most. -/
def Wi (m : Int) (zs : List Int) : Prop := ∀ i, i < zs.length → -m ≤ zs.getD i 0 ∧ zs.getD i 0 ≤ m
/-- A slice's cells hold a list. -/
def Lies (w : World) (b off : Nat) (zs : List Int) : Prop := ∀ i, i < zs.length → w.cell? ⟨b, off + i, none⟩ = some (.int .i64 (zs.getD i 0))

set_option maxHeartbeats 400000 in
theorem within_yes (m : Int) (zs : List Int) (b off cap : Nat) (w : World) (hm : 0 ≤ m ∧ m ≤ 268435456) (hl : zs.length ≤ 4)
    (hc : Lies w b off zs) (hr : Wi m zs) :
    Calls Try.prog 34 #[.int .i64 m, .slice (some ⟨b, off, none⟩) zs.length cap] w fun e w' => e = .returned (.bool true) ∧ w = w' := by
  have HC := hid hc
  have HR := hid hr
  obtain ⟨m1, m2⟩ := hm
  clear hc hr
  go_enter Try.func34, Try.ntmps34
  go_wp2
  go_loop [9] (fun i => ∃ k : Nat, k ≤ zs.length ∧ i = .int .i64 k) (fun i => zs.length - (intOf i).toNat)
  case atStart => exact ⟨0, Nat.zero_le _, rfl⟩
  case round =>
    obtain ⟨k, hk, rfl⟩ := hrel
    by_cases hlt : k < zs.length
    · have hcell := HC.out k hlt
      have h1 := (HR.out k hlt).1
      have h2 := (HR.out k hlt).2
      clear HC HR
      generalize zs.getD k 0 = x at hcell h1 h2
      go_wp2
      go_round
      case rel => exact ⟨k + 1, by omega, by go_num⟩
      case measure => simp [intOf]; omega
    · go_wp2
      go_ret
      exact ⟨rfl, rfl⟩

set_option maxHeartbeats 400000 in
theorem within_no (m : Int) (zs : List Int) (b off cap : Nat) (w : World) (hm : 0 ≤ m ∧ m ≤ 268435456) (hl : zs.length ≤ 4)
    (hc : Lies w b off zs) (hr : ¬ Wi m zs) :
    Calls Try.prog 34 #[.int .i64 m, .slice (some ⟨b, off, none⟩) zs.length cap] w fun e w' => e = .returned (.bool false) ∧ w = w' := by
  have HC := hid hc
  have HR := hid hr
  obtain ⟨m1, m2⟩ := hm
  clear hc hr
  go_enter Try.func34, Try.ntmps34
  go_wp2
  go_loop [9] (fun i => ∃ k : Nat, k ≤ zs.length ∧ i = .int .i64 k ∧ Hid (∀ j, j < k → -m ≤ zs.getD j 0 ∧ zs.getD j 0 ≤ m)) (fun i => zs.length - (intOf i).toNat)
  case atStart => exact ⟨0, Nat.zero_le _, rfl, hid (fun j hj => absurd hj (Nat.not_lt_zero j))⟩
  case round =>
    obtain ⟨k, hk, rfl, hp⟩ := hrel
    by_cases hlt : k < zs.length
    · have hcell := HC.out k hlt
      by_cases hin : -m ≤ zs.getD k 0 ∧ zs.getD k 0 ≤ m
      · have h1 := hin.1
        have h2 := hin.2
        have HIN := hid hin
        clear hin
        generalize zs.getD k 0 = x at hcell h1 h2
        go_wp2
        go_round
        case rel => exact ⟨k + 1, by omega, by go_num, hid (fun j hj => by
          by_cases e : j = k
          · subst e; exact HIN.out
          · exact hp.out j (by omega))⟩
        case measure => simp [intOf]; omega
      · clear HC HR hp
        generalize zs.getD k 0 = x at hcell hin
        by_cases hlo : x < -m
        · clear hin
          go_wp2
          go_ret
          exact ⟨rfl, rfl⟩
        · have hhi : m < x := by omega
          clear hin
          go_wp2
          go_ret
          exact ⟨rfl, rfl⟩
    · exact absurd (fun i hi => hp.out i (by omega)) HR.out

end Go.Proofs.Ytcdedefhofkbhaa.Af
