/- slices.Equal on points, slices.EqualFunc on lines: where both are the same. -/
import Derived.Test.YtjflgblplmgjlaaLns
import Derived.Test.YtjflgblplmgjlaaStep
namespace Go.Proofs.Ytjflgblplmgjlaa
open Go Go.RowKit
set_option linter.unusedVariables false
set_option linter.unusedSimpArgs false

set_option maxHeartbeats 1000000 in
theorem equalp_yes (A A' : Option Addr) (n c c' : Nat) (xs : List P2) (w : World) (hn : n = xs.length) (hb : n ≤ maxLen) (hx : Pts w A xs) (hy : Pts w A' xs) :
    Calls Try.prog 14 #[.slice A n c, .slice A' n c'] w fun e w' => e = .returned (.bool true) ∧ Below w.heap.size w w' := by
  have HX := hid hx
  have HY := hid hy
  have HN := hid hn
  unfold maxLen at hb
  clear hx hy hn
  go_enter Try.func14, Try.ntmps14
  go_wp2_with fail
  go_loopw [13] (fun s13 wr => ∃ k : Nat, k ≤ n ∧ s13 = .int .i64 k ∧ Hid (Below w.heap.size w wr)) (fun s13 _ => n - (intOf s13).toNat)
  case atStart => exact ⟨0, Nat.zero_le _, rfl, hid (Below.refl _ w)⟩
  case round =>
    obtain ⟨k, hk, rfl, HB⟩ := hrel
    by_cases hlt : k < n
    · have hlx : k < xs.length := by rw [← HN.out]; exact hlt
      obtain ⟨a, rfl, hal, hsa⟩ := (HX.out.next HB.out).at_ hlx
      obtain ⟨b, rfl, hbl, hsb⟩ := (HY.out.next HB.out).at_ hlx
      generalize xs[k] = p at hsa hsb
      obtain ⟨a0, a1⟩ := hsa
      obtain ⟨b0, b1⟩ := hsb
      go_upto_region 6 with fail
      go_quiet (fail)
      go_wp2_with fail
      go_roundw
      case rel => exact ⟨k + 1, by omega, by go_num, hid (below_drewN HB.out _)⟩
      case measure => simp [intOf]; omega
    · go_wp2_with fail
      go_ret
      exact ⟨rfl, HB.out⟩

theorem per1_any (A A' : Option Addr) (n c c' : Nat) (cl : Bool) (xs : List P2) (w : World) (hn : n = xs.length) (hb : n ≤ maxLen) (hx : Pts w A xs) (hy : Pts w A' xs) :
    Calls Try.prog 13 #[.agg #[.slice A n c, .bool cl], .agg #[.slice A' n c', .bool cl]] w fun e w' => e = .returned (.bool true) ∧ Below w.heap.size w w' := by
  have HX := hid hx
  have HY := hid hy
  have HN := hid hn
  have HBN := hid hb
  have HB0 := hid (below_alloc (below_alloc (Below.refl w.heap.size w) (.cells #[.slice A n c, .bool cl] 27)) (.cells #[.slice A' n c', .bool cl] 27))
  have hcc : (cl == cl) = true := by cases cl <;> rfl
  clear hx hy hn hb
  go_enter Try.func13, Try.ntmps13
  go_wp2_with fail
  (with_reducible refine (equalp_yes A A' n c c' xs _ HN.out HBN.out (HX.out.next HB0.out) (HY.out.next HB0.out)).mono ?_); rintro e w1 ⟨rfl, hb⟩
  have HB1 := hid (below_next HB0.out hb)
  clear hb
  go_wp2_with fail
  go_ret
  exact ⟨rfl, HB1.out⟩

set_option maxHeartbeats 2000000 in
theorem equalf_yes (A A' : Option Addr) (n c c' : Nat) (es es' : List LE) (w : World) (hn : n = es.length) (hn' : n = es'.length) (hb : n ≤ maxLen) (hx : LnsE w A es) (hy : LnsE w A' es') (he : es.map LE.ln = es'.map LE.ln) :
    Calls Try.prog 12 #[.slice A n c, .slice A' n c', .func (.func 13) #[] #[]] w fun e w' => e = .returned (.bool true) ∧ Below w.heap.size w w' := by
  have HX := hid hx
  have HY := hid hy
  have HN := hid hn
  have HN' := hid hn'
  have HE := hid he
  unfold maxLen at hb
  clear hx hy hn hn' he
  go_enter Try.func12, Try.ntmps12
  go_wp2_with fail
  go_loopw [17] (fun s17 wr => ∃ k : Nat, k ≤ n ∧ s17 = .int .i64 k ∧ Hid (Below w.heap.size w wr)) (fun s17 _ => n - (intOf s17).toNat)
  case atStart => exact ⟨0, Nat.zero_le _, rfl, hid (Below.refl _ w)⟩
  case round =>
    obtain ⟨k, hk, rfl, HB⟩ := hrel
    by_cases hlt : k < n
    · have hlx : k < es.length := by rw [← HN.out]; exact hlt
      have hly : k < es'.length := by rw [← HN'.out]; exact hlt
      obtain ⟨a, rfl, hal, hsa⟩ := (HX.out.next HB.out).at_ hlx
      obtain ⟨b, rfl, hbl, hsb⟩ := (HY.out.next HB.out).at_ hly
      have HQ := hid (show es[k].ps = es'[k].ps ∧ es[k].cl = es'[k].cl from by
        have h1 := congrArg (fun l => l[k]?) HE.out
        simp only [List.getElem?_map, List.getElem?_eq_getElem hlx, List.getElem?_eq_getElem hly, Option.map_some, Option.some.injEq] at h1
        exact ⟨congrArg Ln.ps h1, congrArg Ln.cl h1⟩)
      generalize es[k] = p at hsa HQ
      generalize es'[k] = q at hsb HQ
      obtain ⟨a0, a1, hp, hple⟩ := hsa
      obtain ⟨b0, b1, hq, hqle⟩ := hsb
      rw [← HQ.out.1] at b0 hq
      rw [← HQ.out.2] at b1
      have HP1 := hid hp
      have HP2 := hid hq
      have HPL := hid (Nat.le_trans hple.1 hple.2)
      obtain ⟨m, hm⟩ : ∃ m, m = p.ps.length := ⟨_, rfl⟩
      have HM := hid hm
      rw [← hm] at a0 b0 HPL
      have hbl2 : b.block < wr.heap.size := hbl
      clear hp hq hple hqle hm
      have b0' : (wr.alloc (.cells #[.slice p.A m p.c, .bool p.cl] 27)).cell? (b.add (k * 2)) = some (.slice q.A m q.c) := ((Below.refl _ wr).alloc (Nat.le_refl _) _ |>.cell (by rw [add_block]; exact hbl2)).trans b0
      have b1' : (wr.alloc (.cells #[.slice p.A m p.c, .bool p.cl] 27)).cell? ⟨(b.add (k * 2)).block, (b.add (k * 2)).off + 1, none⟩ = some (.bool p.cl) := ((Below.refl _ wr).alloc (Nat.le_refl _) _ |>.cell (p := ⟨(b.add (k * 2)).block, (b.add (k * 2)).off + 1, none⟩) (by rw [add_block]; exact hbl2)).trans b1
      have HBZ := hid (below_alloc (below_alloc (Below.refl wr.heap.size wr) (.cells #[.slice p.A m p.c, .bool p.cl] 27)) (.cells #[.slice q.A m q.c, .bool p.cl] 27))
      have HCALL := hid (per1_any p.A q.A m p.c q.c p.cl p.ps · HM.out HPL.out)
      go_wp2_with (go_at_call 13; (with_reducible refine (HCALL.out _ (HP1.out.next HBZ.out) (HP2.out.next HBZ.out)).mono ?_); rintro e w5 ⟨rfl, hb5⟩)
      have HB5 := hid (below_next HB.out (below_next HBZ.out hb5))
      clear hb5
      go_roundw
      case rel => exact ⟨k + 1, by omega, by go_num, HB5⟩
      case measure => simp [intOf]; omega
    · go_wp2_with fail
      go_ret
      exact ⟨rfl, HB.out⟩
end Go.Proofs.Ytjflgblplmgjlaa
