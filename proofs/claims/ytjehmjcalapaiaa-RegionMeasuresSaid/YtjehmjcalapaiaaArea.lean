/- Area of package region. -/
import Derived.Test.YtjehmjcalapaiaaCmb
import Derived.Test.YtjehmjcalapaiaaChk
namespace Go.Proofs.Ytjehmjcalapaiaa
open Go Go.RowKit
set_option linter.unusedVariables false

/-- The number of cells, run by run. -/
def areaL : List Rn → Int
  | [] => 0
  | r :: rs => (r.b - r.a) + areaL rs
theorem areaL_snoc (rs : List Rn) (r : Rn) : areaL (rs ++ [r]) = areaL rs + (r.b - r.a) := by
  induction rs with
  | nil => simp [areaL]
  | cons s rs ih => rw [List.cons_append, areaL, areaL, ih]; omega

set_option maxHeartbeats 2000000 in
set_option maxRecDepth 100000 in
theorem area_any (A : Option Addr) (ss : List Rn) (n c : Nat) (w : World) (hn : n = ss.length) (hs : Runs w A ss) (hc : chk ss = 0) :
    Calls Try.prog 23 #[.slice A n c] w fun e w' => e = .returned (.tuple #[.int .i64 (areaL ss), .int .i64 0]) ∧ Below w.heap.size w w' := by
  have HS := hid hs
  have HN := hid hn
  have HC := hid hc
  have hnb : n ≤ 1000000000 := by rw [hn]; exact chk_len hc
  have hl : n ≤ maxLen := by unfold maxLen; omega
  clear hs hn hc
  go_enter Try.func23, Try.ntmps23
  go_wp2_with fail
  (with_reducible refine (check_any A ss n c _ HN.out hl HS.out).mono ?_); rintro e w1 ⟨rfl, hb⟩
  rw [HC.out]
  have HB := hid hb
  clear hb
  go_wp2_with fail
  go_loopw [15, 5] (fun s15 s5 wr => ∃ (j : Nat) (t : Int), j ≤ n ∧ s15 = .int .i64 j ∧ s5 = .int .i64 t ∧ 0 ≤ t ∧ t ≤ 16384 * j ∧ Hid (t = areaL (ss.take j)) ∧ Hid (Below w.heap.size w wr)) (fun s15 _ _ => n - (intOf s15).toNat)
  case atStart => exact ⟨0, 0, Nat.zero_le _, rfl, rfl, by omega, by omega, hid rfl, HB⟩
  case round =>
    obtain ⟨j, t, hj, rfl, rfl, ht0, ht1, HT, HB⟩ := hrel
    by_cases hlt : j < n
    · have hjl : j < ss.length := by rw [← HN.out]; exact hlt
      obtain ⟨a, rfl, hal, hsa⟩ := (HS.out.next HB.out).at_ hjl
      have HA := hid (show t + (ss[j].b - ss[j].a) = areaL (ss.take (j + 1)) by rw [List.take_succ_eq_append_getElem hjl, areaL_snoc, HT.out])
      have hr := (chk_all HC.out).1 _ (List.getElem_mem hjl)
      unfold RnOk RnIn at hr
      generalize ss[j] = r at hsa HA hr
      obtain ⟨c0, c1, c2⟩ := hsa
      have HB2 := hid (below_alloc HB.out (.cells (cel r) 43))
      clear HT
      go_wp2_with fail
      go_roundw
      case rel => exact ⟨j + 1, t + (r.b - r.a), by omega, by go_num, rfl, by omega, by omega, HA, HB2⟩
      case measure => simp [intOf]; omega
    · have HE := hid (show t = areaL ss by have := HT.out; rwa [List.take_of_length_le (by have := HN.out; omega)] at this)
      go_wp2_with fail
      go_ret2
      exact ⟨by rw [← HE.out]; rfl, HB.out⟩

end Go.Proofs.Ytjehmjcalapaiaa
