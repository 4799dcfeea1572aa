/- What Reverse of package path returns. -/
import Derived.Test.YtcdedefhofkbhaaAppR
import Derived.Test.YtcdedefhofkbhaaApd
namespace Go.Proofs.Ytcdedefhofkbhaa
open Go Go.RowKit
set_option linter.unusedVariables false

theorem own_cap {w : World} {B n : Nat} {A : Option Addr} {k c : Nat} {xs : List Value} (h : w.ownsRow B 25 6 (.slice A k c) n xs) : k = n ∧ k ≤ c ∧ c ≤ maxLen := by
  rcases h.2 with ⟨e, h0⟩ | ⟨g, cap, cur, e, hB, hg, hnc, hcm, -, -⟩
  · cases e; exact ⟨h0.symm, Nat.le_refl _, Nat.zero_le _⟩
  · cases e; exact ⟨rfl, hnc, hcm⟩

theorem reverse_bad (A : Option Addr) (ss : List Sg) (n c : Nat) (w : World) (hn : n = ss.length) (hs : n ≤ 1000 → Segs w A ss) (h : chk ss ≠ 0) :
    Calls Try.prog 14 #[.slice A n c] w fun e w' => e = .returned (.tuple #[.slice none 0 0, .int .i64 (chk ss)]) ∧ Below w.heap.size w w' := by
  have HS := hid hs
  have HN := hid hn
  have he : (chk ss != 0) = true := by simp [h]
  clear hs hn h
  go_enter Try.func14, Try.ntmps14
  go_wp2_with fail
  (with_reducible refine (check_any A ss n c _ HN.out HS.out).mono ?_); rintro e w1 ⟨rfl, hb⟩
  have HB := hid hb
  clear hb
  go_wp2_with fail
  go_ret2
  exact ⟨rfl, HB.out⟩

set_option maxHeartbeats 3200000 in
set_option maxRecDepth 100000 in
theorem reverse_good (A : Option Addr) (ss : List Sg) (n c : Nat) (w : World) (hn : n = ss.length) (hs : Segs w A ss) (hok : chk ss = 0) (hc : n ≤ c ∧ c ≤ maxLen) :
    Calls Try.prog 14 #[.slice A n c] w fun e w' => ∃ v, e = .returned (.tuple #[v, .int .i64 0]) ∧ w'.ownsRow w.heap.size 25 6 v (rev ss).length (flat (rev ss)) ∧ Below w.heap.size w w' := by
  obtain ⟨i0, hi, hz0, hz1, hz2⟩ := info_parts F2.infoSeg
  have HS := hid hs
  have HOK := hid hok
  have hle := chk_le hok
  have HC := hid (check_any A ss n c w hn fun _ => hs)
  rw [hok] at HC
  subst hn
  obtain ⟨hc1, hc2⟩ := hc
  have hc3 : (c : Int) ≤ 9223372036854775807 := by unfold maxLen at hc2; omega
  have HCM := hid hc2
  clear hs hok hc2
  go_enter Try.func14, Try.ntmps14
  go_wp2_with fail
  (with_reducible refine HC.out.mono ?_); rintro e w1 ⟨rfl, hb⟩
  have HB := hid hb
  clear hb HC
  go_wp2_with (at_make; refine wpList_make_own _ rfl _ _ 35 rfl w.heap.size 25 i0 _ 6 Try.underlying35 hi hz0 hz1 _ _ _ ss.length rfl rfl rfl (by rw [hz2]; omega) (by unfold maxLen; omega) HB.out.size ?_)
  intro w2 hown hgrow
  have HB2 := hid (HB.out.grown hgrow HB.out.size (fun k hk => by cases hk))
  have HO := hid hown
  clear hown hgrow
  go_wp2_with fail
  go_loopw [5, 6] (fun s5 s6 wr => ∃ (i : Nat) (acc : List Sg), acc.length = i ∧ i ≤ ss.length ∧ Hid (i < ss.length → (sg ss i).k = 1) ∧ s6 = .int .i64 i ∧ Hid (rev ss = acc ++ revFrom ss ss.length i) ∧ Hid (wr.ownsRow w.heap.size 25 6 s5 acc.length (flat acc)) ∧ Hid (Below w.heap.size w wr)) (fun _ s6 _ => ss.length - (intOf s6).toNat)
  case atStart => exact ⟨0, [], rfl, Nat.zero_le _, hid (first_move HOK.out), rfl, hid rfl, HO, HB2⟩
  case round =>
    obtain ⟨i, acc, hacc, hile, HMV, rfl, HREV, HOJ, HBJ⟩ := hrel
    by_cases hlt : i < ss.length
    · obtain ⟨a, rfl, ha, -⟩ := HS.out.at_ hlt
      have hE1 := ends_gt ss i
      have hE2 := ends_le hlt
      have HE1 := hid hE1
      have HE2 := hid hE2
      have HCL := hid (fun (h : (sg ss (ends ss i - 1)).k = 4) => show i + 2 ≤ ends ss i from closed_len HOK.out hlt (HMV.out hlt) h)
      have HREV1 := hid (HREV.out.trans (by rw [revFrom_at hlt]))
      clear HREV HMV
      go_wp2_with fail
      (with_reducible refine (subpathEnd_any a ss c i _ (HS.out.next HBJ.out) hle hlt hc1 HCM.out).mono ?_); rintro e w3 ⟨rfl, hb⟩
      have HB3 := hid (HBJ.out.trans (hb.mono HBJ.out.size))
      have HO3 := hid (own_next HOJ.out hb)
      have HSUB := hid (((HS.out.next HB3.out).drop i).take (ends ss i - i))
      have HLEN := hid (show ends ss i - i = ((ss.drop i).take (ends ss i - i)).length by rw [List.length_take, List.length_drop]; omega)
      have HRS := hid (show revSub ((ss.drop i).take (ends ss i - i)) 0 (ends ss i - i) = revSub ss i (ends ss i) by
        have h1 : i + (ends ss i - i) = ends ss i := by omega
        rw [revSub_sub (by omega) (by rw [h1]; intro h; have := HCL.out h; omega), h1])
      have HCC := hid (show (sg ((ss.drop i).take (ends ss i - i)) (ends ss i - i - 1)).k = 4 → 2 ≤ ends ss i - i by
        rw [sg_sub (by omega), show i + (ends ss i - i - 1) = ends ss i - 1 by omega]
        intro h; have := HCL.out h; omega)
      clear hb HBJ HOJ
      go_wp2_with fail
      (with_reducible refine (appendReversed_any w.heap.size acc.length _ acc ((ss.drop i).take (ends ss i - i)) (a.add (i * 6)) (ends ss i - i) _ _ HLEN.out (by omega) HCC.out HSUB.out (by rw [add_block]; exact ha) HB3.out.size HO3.out (by omega)).mono ?_); rintro e w4 ⟨v4, rfl, hown4, hb⟩
      rw [HRS.out] at hown4
      have HL4 := hid (show acc.length + (ends ss i - i) = (acc ++ revSub ss i (ends ss i)).length by
        have := hown4.1
        rw [flat_length] at this
        omega)
      rw [HL4.out] at hown4
      have HO4 := hid hown4
      have HB4 := hid (HB3.out.trans hb)
      have HF := hid (show rev ss = (acc ++ revSub ss i (ends ss i)) ++ revFrom ss ss.length (ends ss i) by rw [HREV1.out, List.append_assoc])
      clear hown4 hb
      go_wp2_with fail
      go_roundw
      case rel => exact ⟨ends ss i, _, by rw [← HL4.out]; omega, HE2.out, hid (ends_move ss i), rfl, HF, HO4, HB4⟩
      case measure => have := HE1.out; have := HE2.out; simp [intOf]; omega
    · have HF := hid (show rev ss = acc by rw [HREV.out, revFrom_end ss _ _ (by omega), List.append_nil])
      go_wp2_with fail
      go_ret2
      refine ⟨_, rfl, ?_, HBJ.out⟩
      rw [HF.out]
      exact HOJ.out

end Go.Proofs.Ytcdedefhofkbhaa
