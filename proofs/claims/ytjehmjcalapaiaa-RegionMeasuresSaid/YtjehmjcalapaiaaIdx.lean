/- slices.IndexFunc and ContainsFunc of runs, with a test that only lays blocks. -/
import Derived.Test.YtjehmjcalapaiaaHasC
namespace Go.Proofs.Ytjehmjcalapaiaa
open Go Go.RowKit
set_option linter.unusedVariables false

set_option maxHeartbeats 1000000 in
theorem idxC_any (A : Option Addr) (ss : List Rn) (n c b1 b2 : Nat) (x y : Int) (w : World) (hn : n = ss.length) (hl : n ≤ maxLen) (hs : Runs w A ss) (hy : w.cell? ⟨b1, 0, none⟩ = some (.int .i64 y)) (hx : w.cell? ⟨b2, 0, none⟩ = some (.int .i64 x)) (hb1 : b1 < w.heap.size) (hb2 : b2 < w.heap.size) :
    Calls Try.prog 105 #[.slice A n c, .func (.func 75) #[] #[.pointer (some ⟨b1, 0, none⟩), .pointer (some ⟨b2, 0, none⟩)]] w fun e w' =>
      (∃ i : Int, e = .returned (.int .i64 i) ∧ (0 ≤ i ↔ has ss x y = true)) ∧ Below w.heap.size w w' := by
  have HS := hid hs
  have HN := hid hn
  have HY := hid hy
  have HX := hid hx
  unfold maxLen at hl
  clear hs hn hx hy
  go_enter Try.func105, Try.ntmps105
  go_wp2_with fail
  go_loopw [8] (fun s8 wr => ∃ (j : Nat), j ≤ n ∧ s8 = .int .i64 j ∧ Hid (has (ss.take j) x y = false) ∧ Hid (Below w.heap.size w wr)) (fun s8 _ => n - (intOf s8).toNat)
  case atStart => exact ⟨0, Nat.zero_le _, rfl, hid rfl, hid (Below.refl _ _)⟩
  case round =>
    obtain ⟨j, hj, rfl, HT, HB⟩ := hrel
    by_cases hlt : j < n
    · have hjl : j < ss.length := by rw [← HN.out]; exact hlt
      obtain ⟨a, rfl, hal, hsa⟩ := (HS.out.next HB.out).at_ hjl
      have HA := hid (show has (ss.take (j + 1)) x y = hasR ss[j] x y by rw [List.take_succ_eq_append_getElem hjl, has_snoc, HT.out, Bool.false_or])
      have HI := hid (show hasR ss[j] x y = true → has ss x y = true from fun h => by
        unfold has; rw [List.any_eq_true]; exact ⟨_, List.getElem_mem hjl, h⟩)
      generalize ss[j] = r at hsa HA HI
      obtain ⟨q0, q1, q2⟩ := hsa
      have HC := hid (hasC_any b1 b2 r x y wr ((HB.out.cell (p := ⟨b1, 0, none⟩) hb1).trans HY.out) ((HB.out.cell (p := ⟨b2, 0, none⟩) hb2).trans HX.out) (Nat.lt_of_lt_of_le hb1 HB.out.size) (Nat.lt_of_lt_of_le hb2 HB.out.size))
      cases hr : hasR r x y
      · rw [hr] at HA HC
        go_wp2_with fail
        (with_reducible refine (HC.out).mono ?_); rintro e w2 ⟨rfl, hb⟩
        have HB2 := hid (below_next HB.out hb)
        clear hb
        go_wp2_with fail
        go_roundw
        case rel => exact ⟨j + 1, by omega, by go_num, HA, HB2⟩
        case measure => simp [intOf]; omega
      · have HF := hid (HI.out hr)
        rw [hr] at HC
        go_wp2_with fail
        (with_reducible refine (HC.out).mono ?_); rintro e w2 ⟨rfl, hb⟩
        have HB2 := hid (below_next HB.out hb)
        clear hb
        go_wp2_with fail
        go_ret
        exact ⟨⟨j, rfl, fun _ => HF.out, fun _ => by omega⟩, HB2.out⟩
    · have HE := hid (show has ss x y = false by have := HT.out; rwa [List.take_of_length_le (by have := HN.out; omega)] at this)
      go_wp2_with fail
      go_ret
      exact ⟨⟨-1, rfl, fun h => absurd h (by decide), fun h => by rw [HE.out] at h; cases h⟩, HB.out⟩

end Go.Proofs.Ytjehmjcalapaiaa
