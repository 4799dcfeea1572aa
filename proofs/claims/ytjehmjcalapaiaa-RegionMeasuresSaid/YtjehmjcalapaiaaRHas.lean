/- The reference's Has; short and pair of the statements' package. -/
import Derived.Test.YtjehmjcalapaiaaRgn
namespace Go.Proofs.Ytjehmjcalapaiaa
open Go Go.RowKit
set_option linter.unusedVariables false

theorem has_drop {ss : List Rn} {k : Nat} (h : k < ss.length) (x y : Int) : has (ss.drop k) x y = (hasR ss[k] x y || has (ss.drop (k + 1)) x y) := by
  rw [List.drop_eq_getElem_cons h, has_cons]
set_option maxHeartbeats 2000000 in
theorem rhas_any (A : Option Addr) (ss : List Rn) (n c : Nat) (x y : Int) (w : World) (hn : n = ss.length) (hl : n ≤ maxLen) (hs : Runs w A ss) :
    Calls Try.prog 41 #[.slice A n c, .int .i64 x, .int .i64 y] w fun e w' => e = .returned (.bool (has ss x y)) ∧ w = w' := by
  have HS := hid hs
  have HN := hid hn
  unfold maxLen at hl
  clear hs hn
  go_enter Try.func41, Try.ntmps41
  go_wp2
  go_loop [10] (fun i => ∃ k : Nat, k ≤ n ∧ i = .int .i64 k ∧ Hid (has ss x y = has (ss.drop k) x y)) (fun i => n - (intOf i).toNat)
  case atStart => exact ⟨0, Nat.zero_le _, rfl, hid rfl⟩
  case round =>
    obtain ⟨k, hk, rfl, hp⟩ := hrel
    by_cases hlt : k < n
    · have hlz : k < ss.length := by rw [← HN.out]; exact hlt
      obtain ⟨a, rfl, hal, hsa⟩ := HS.out.at_ hlz
      have hp1 := hid (hp.out.trans (has_drop hlz x y))
      generalize ss[k] = r at hsa hp1
      obtain ⟨c0, c1, c2⟩ := hsa
      clear hp
      by_cases h1 : r.y = y
      · by_cases h2 : r.a ≤ x
        · by_cases h3 : x < r.b
          · have HE := hid (hp1.out.trans (by rw [show hasR r x y = true from decide_eq_true ⟨h1, h2, h3⟩, Bool.true_or]))
            rw [h1] at c0
            clear h1 hp1
            go_wp2
            go_ret
            exact ⟨congrArg (fun z => Ending.returned (Value.bool z)) HE.out.symm, rfl⟩
          · have HE := hid (hp1.out.trans (by rw [show hasR r x y = false from decide_eq_false (fun k => h3 k.2.2), Bool.false_or]))
            rw [h1] at c0
            clear h1 hp1
            go_wp2
            go_round
            case rel => exact ⟨k + 1, by omega, by go_num, HE⟩
            case measure => simp [intOf]; omega
        · have HE := hid (hp1.out.trans (by rw [show hasR r x y = false from decide_eq_false (fun k => h2 k.2.1), Bool.false_or]))
          rw [h1] at c0
          clear h1 hp1
          go_wp2
          go_round
          case rel => exact ⟨k + 1, by omega, by go_num, HE⟩
          case measure => simp [intOf]; omega
      · have HE := hid (hp1.out.trans (by rw [show hasR r x y = false from decide_eq_false (fun k => h1 k.1), Bool.false_or]))
        have h1' : (r.y == y) = false := by simpa using h1
        clear hp1
        go_wp2
        go_round
        case rel => exact ⟨k + 1, by omega, by go_num, HE⟩
        case measure => simp [intOf]; omega
    · have hd : has (ss.drop k) x y = false := by rw [List.drop_eq_nil_of_le (by rw [← HN.out]; omega)]; rfl
      have HD := hid (hp.out.trans hd)
      clear hd hp
      go_wp2
      go_ret
      exact ⟨congrArg (fun z => Ending.returned (Value.bool z)) HD.out.symm, rfl⟩

end Go.Proofs.Ytjehmjcalapaiaa
