/- The reference's around. -/
import Derived.Test.YtldbpabnfjnpbaaMRow
import Derived.Test.YtldbpabnfjnpbaaRChk
namespace Go.Proofs.Ytldbpabnfjnpbaa
open Go Go.RowKit
set_option linter.unusedVariables false
set_option linter.unusedSimpArgs false

def spanR (x0 x1 row : Int) (s : Rn) : Bool := decide (s.y = row ∧ s.a ≤ x0 ∧ x1 < s.b)
/-- Whether a run holds the cells x0 to x1 of a row. -/
def rowB (ss : List Rn) (x0 x1 row : Int) : Bool := ss.any (spanR x0 x1 row)
/-- around. -/
def aroB (ss : List Rn) (x y : Int) (d : Nat) : Bool := (List.range (2 * d + 1)).all fun k => rowB ss (x - d) (x + d) (y - d + (k : Int))
theorem any_take {α : Type} {f : α → Bool} {ss : List α} {i : Nat} (h : i < ss.length) : (ss.take (i + 1)).any f = ((ss.take i).any f || f ss[i]) := by
  rw [List.take_succ_eq_append_getElem h, List.any_append]
  simp
theorem aro_true {ss : List Rn} {x y : Int} {d : Nat} (h : ∀ k : Nat, k < 2 * d + 1 → rowB ss (x - d) (x + d) (y - d + (k : Int)) = true) : aroB ss x y d = true := by
  unfold aroB
  rw [List.all_eq_true]
  exact fun k hk => h k (List.mem_range.1 hk)
theorem aro_false {ss : List Rn} {x y : Int} {d k : Nat} (hk : k < 2 * d + 1) (h : rowB ss (x - d) (x + d) (y - d + (k : Int)) = false) : aroB ss x y d = false := by
  cases e : aroB ss x y d
  · rfl
  · unfold aroB at e
    rw [List.all_eq_true] at e
    have := e k (List.mem_range.2 hk)
    rw [h] at this
    cases this

set_option maxHeartbeats 2000000 in
theorem around_any (A : Option Addr) (ss : List Rn) (n c d : Nat) (x y : Int) (w : World) (hn : n = ss.length) (hl : n ≤ maxLen) (hs : Runs w A ss) (hd : d ≤ 64) (hx : -100000 ≤ x ∧ x ≤ 100000) (hy : -100000 ≤ y ∧ y ≤ 100000) :
    Calls Try.prog 69 #[.slice A n c, .int .i64 x, .int .i64 y, .int .i64 d] w fun e w' => e = .returned (.bool (aroB ss x y d)) ∧ w = w' := by
  have HS := hid hs
  have HN := hid hn
  obtain ⟨x1, x2⟩ := hx
  obtain ⟨y1, y2⟩ := hy
  unfold maxLen at hl
  clear hs hn
  go_enter Try.func69, Try.ntmps69
  go_wp2
  go_loop [9] (fun s9 => ∃ j : Nat, j ≤ 2 * d + 1 ∧ s9 = .int .i64 (y - d + (j : Int)) ∧ Hid (∀ k : Nat, k < j → rowB ss (x - d) (x + d) (y - d + (k : Int)) = true)) (fun s9 => (y + d + 1 - intOf s9).toNat)
  case atStart => exact ⟨0, Nat.zero_le _, by go_num, hid fun k hk => absurd hk (Nat.not_lt_zero _)⟩
  case round =>
    obtain ⟨j, hj, rfl, hp⟩ := hrel
    by_cases hlt : j < 2 * d + 1
    · have hle : y - d + (j : Int) ≤ y + d := by omega
      go_wp2
      go_loop [10, 24] (fun s10 s24 => ∃ i : Nat, i ≤ n ∧ s24 = .int .i64 i ∧ s10 = .bool ((ss.take i).any (spanR (x - d) (x + d) (y - d + (j : Int))))) (fun _ s24 => n - (intOf s24).toNat)
      case atStart => exact ⟨0, Nat.zero_le _, rfl, rfl⟩
      case round =>
        obtain ⟨i, hi, rfl, hv⟩ := hrel
        obtain ⟨b, hb⟩ : ∃ b, b = (ss.take i).any (spanR (x - d) (x + d) (y - d + (j : Int))) := ⟨_, rfl⟩
        rw [← hb] at hv
        subst hv
        by_cases hlt2 : i < n
        · have hlz : i < ss.length := by rw [← HN.out]; exact hlt2
          obtain ⟨a, rfl, hal, hsa⟩ := HS.out.at_ hlz
          have hp1 := hid (any_take (f := spanR (x - d) (x + d) (y - d + (j : Int))) hlz)
          have HB := hid hb
          clear hb
          generalize ss[i] = r at hsa hp1
          obtain ⟨c0, c1, c2⟩ := hsa
          cases b
          · by_cases h1 : r.y = y - d + (j : Int)
            · by_cases h2 : r.a ≤ x - d
              · by_cases h3 : x + d < r.b
                · have HE := hid (hp1.out.trans (by rw [← HB.out, show spanR (x - d) (x + d) (y - d + (j : Int)) r = true from decide_eq_true ⟨h1, h2, h3⟩, Bool.false_or]))
                  rw [h1] at c0
                  clear h1 hp1 HB
                  go_wp2
                  go_round
                  case rel => exact ⟨i + 1, by omega, by go_num, by rw [HE.out]⟩
                  case measure => simp [intOf]; omega
                · have HE := hid (hp1.out.trans (by rw [← HB.out, show spanR (x - d) (x + d) (y - d + (j : Int)) r = false from decide_eq_false (fun k => h3 k.2.2), Bool.false_or]))
                  have h3' : decide (x + d < r.b) = false := decide_eq_false h3
                  rw [h1] at c0
                  clear h1 hp1 HB
                  go_wp2
                  go_round
                  case rel => exact ⟨i + 1, by omega, by go_num, by rw [HE.out]⟩
                  case measure => simp [intOf]; omega
              · have HE := hid (hp1.out.trans (by rw [← HB.out, show spanR (x - d) (x + d) (y - d + (j : Int)) r = false from decide_eq_false (fun k => h2 k.2.1), Bool.false_or]))
                have h2' : decide (r.a ≤ x - d) = false := decide_eq_false h2
                rw [h1] at c0
                clear h1 hp1 HB
                go_wp2
                go_round
                case rel => exact ⟨i + 1, by omega, by go_num, by rw [HE.out]⟩
                case measure => simp [intOf]; omega
            · have HE := hid (hp1.out.trans (by rw [← HB.out, show spanR (x - d) (x + d) (y - d + (j : Int)) r = false from decide_eq_false (fun k => h1 k.1), Bool.false_or]))
              have h1' : (r.y == y - d + (j : Int)) = false := by simpa using h1
              clear hp1 HB
              go_wp2
              go_round
              case rel => exact ⟨i + 1, by omega, by go_num, by rw [HE.out]⟩
              case measure => simp [intOf]; omega
          · have HE := hid (hp1.out.trans (by rw [← HB.out, Bool.true_or]))
            clear hp1 HB
            go_wp2
            go_round
            case rel => exact ⟨i + 1, by omega, by go_num, by rw [HE.out]⟩
            case measure => simp [intOf]; omega
        · have hR : b = rowB ss (x - d) (x + d) (y - d + (j : Int)) := by
            rw [hb, List.take_of_length_le (by rw [← HN.out]; omega)]; rfl
          have HR := hid hR
          clear hb hR
          cases b
          · have HF := hid (aro_false hlt HR.out.symm)
            go_wp2
            go_ret
            exact ⟨congrArg (fun z => Ending.returned (Value.bool z)) HF.out.symm, rfl⟩
          · have HP2 : Hid (∀ k : Nat, k < j + 1 → rowB ss (x - d) (x + d) (y - d + (k : Int)) = true) := hid (fun k hk => by
              rcases Nat.lt_or_ge k j with h | h
              · exact hp.out k h
              · obtain rfl : k = j := by omega
                exact HR.out.symm)
            go_wp2
            go_round
            case rel => exact ⟨j + 1, by omega, by go_num, HP2⟩
            case measure => simp [intOf]; omega
    · obtain rfl : j = 2 * d + 1 := by omega
      have HT := hid (aro_true hp.out)
      have hgt : y + d < y - d + ((2 * d + 1 : Nat) : Int) := by omega
      clear hp
      go_wp2
      go_ret
      exact ⟨congrArg (fun z => Ending.returned (Value.bool z)) HT.out.symm, rfl⟩

end Go.Proofs.Ytldbpabnfjnpbaa
