/- The reference's Area. -/
import Derived.Test.YtjehmjcalapaiaaArea
namespace Go.Proofs.Ytjehmjcalapaiaa
open Go Go.RowKit
set_option linter.unusedVariables false

set_option maxHeartbeats 2000000 in
set_option maxRecDepth 100000 in
theorem rarea_any (A : Option Addr) (ss : List Rn) (n c : Nat) (w : World) (hn : n = ss.length) (hs : Runs w A ss) (hc : chk ss = 0) :
    Calls Try.prog 42 #[.slice A n c] w fun e w' => e = .returned (.int .i64 (areaL ss)) ∧ Below w.heap.size w w' := by
  have HS := hid hs
  have HN := hid hn
  have HC := hid hc
  have hnb : n ≤ 1000000000 := by rw [hn]; exact chk_len hc
  clear hs hn hc
  go_enter Try.func42, Try.ntmps42
  go_wp2_with fail
  go_loopw [7, 3] (fun s7 s3 wr => ∃ (j : Nat) (t : Int), j ≤ n ∧ s7 = .int .i64 j ∧ s3 = .int .i64 t ∧ 0 ≤ t ∧ t ≤ 16384 * j ∧ Hid (t = areaL (ss.take j)) ∧ Hid (Below w.heap.size w wr)) (fun s7 _ _ => n - (intOf s7).toNat)
  case atStart => exact ⟨0, 0, Nat.zero_le _, rfl, rfl, by omega, by omega, hid rfl, hid (Below.refl _ _)⟩
  case round =>
    obtain ⟨j, t, hj, rfl, rfl, ht0, ht1, HT, HB⟩ := hrel
    by_cases hlt : j < n
    · have hjl : j < ss.length := by rw [← HN.out]; exact hlt
      obtain ⟨a, rfl, hal, hsa⟩ := (HS.out.next HB.out).at_ hjl
      have HA := hid (show t + (ss[j].b - ss[j].a) = areaL (ss.take (j + 1)) by rw [List.take_succ_eq_append_getElem hjl, areaL_snoc, HT.out])
      have hr := (chk_all HC.out).1 _ (List.getElem_mem hjl)
      unfold RnOk RnIn at hr
      generalize ss[j] = r at hsa HA hr
      obtain ⟨c0, c1, c2⟩ := hsa
      clear HT
      have e1 : IntKind.i64.wrap (r.b - r.a) = r.b - r.a := IntWalk.i64_in _ (by omega)
      have e2 : IntKind.i64.wrap (t + (r.b - r.a)) = t + (r.b - r.a) := IntWalk.i64_in _ (by omega)
      go_upto_region 5 with fail
      go_quiet (fail)
      clear e1 e2 c0 c1 c2
      have HB2 := hid (below_drewN HB.out nq)
      go_wp2_with fail
      go_roundw
      case rel => exact ⟨j + 1, t + (r.b - r.a), by omega, by go_num, rfl, by omega, by omega, HA, HB2⟩
      case measure => simp [intOf]; omega
    · have HE := hid (show t = areaL ss by have := HT.out; rwa [List.take_of_length_le (by have := HN.out; omega)] at this)
      go_wp2_with fail
      go_ret
      exact ⟨by rw [← HE.out]; rfl, HB.out⟩

end Go.Proofs.Ytjehmjcalapaiaa
