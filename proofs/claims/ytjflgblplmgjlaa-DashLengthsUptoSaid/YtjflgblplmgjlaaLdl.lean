/- law1's dashes; the law DashLengths. -/
import Derived.Test.YtjflgblplmgjlaaRwk
namespace Go.Proofs.Ytjflgblplmgjlaa
open Go Go.RowKit
set_option linter.unusedVariables false
set_option linter.unusedSimpArgs false

set_option maxHeartbeats 1000000 in
theorem samep_yes (A A' : Option Addr) (n c c' : Nat) (xs : List P2) (w : World) (hn : n = xs.length) (hb : n ≤ maxLen) (hx : Pts w A xs) (hy : Pts w A' xs) :
    Calls Try.prog 29 #[.slice A n c, .slice A' n c'] w fun e w' => e = .returned (.bool true) ∧ Below w.heap.size w w' := by
  have HX := hid hx
  have HY := hid hy
  have HN := hid hn
  unfold maxLen at hb
  clear hx hy hn
  go_enter Try.func29, Try.ntmps29
  go_wp2_with fail
  go_loopw [13] (fun s13 wr => ∃ k : Nat, k ≤ n ∧ s13 = .int .i64 k ∧ Hid (Below w.heap.size w wr)) (fun s13 _ => n - (intOf s13).toNat)
  case atStart => exact ⟨0, Nat.zero_le _, rfl, hid (Below.refl _ w)⟩
  case round =>
    obtain ⟨k, hk, rfl, HB⟩ := hrel
    by_cases hlt : k < n
    · have hlx : k < xs.length := by rw [← HN.out]; exact hlt
      obtain ⟨a, rfl, hal, hsa⟩ := (HX.out.next HB.out).at_ hlx
      obtain ⟨b, rfl, hbl, hsb⟩ := (HY.out.next HB.out).at_ hlx
      generalize xs[k] = p at hsa hsb
      obtain ⟨a0, a1⟩ := hsa
      obtain ⟨b0, b1⟩ := hsb
      go_upto_region 6 with fail
      go_quiet (fail)
      go_wp2_with fail
      go_roundw
      case rel => exact ⟨k + 1, by omega, by go_num, hid (below_drewN HB.out _)⟩
      case measure => simp [intOf]; omega
    · go_wp2_with fail
      go_ret
      exact ⟨rfl, HB.out⟩


theorem resBar {fn : Func} {p q : Tmp} {tmps : Array Value} {w : World} {b1 b2 n c : Nat} {A : Option Addr} {cl : Bool} {z1 z2 z3 z4 : Int} (h : fn.results = #[.cell p 27, .cell q 63]) (hp : tmps.getD p undef = .pointer (some ⟨b1, 0, none⟩)) (hq : tmps.getD q undef = .pointer (some ⟨b2, 0, none⟩))
    (h1 : Var w b1 #[.slice A n c, .bool cl] 27) (h2 : Var w b2 #[.int .i64 z1, .int .i64 z2, .int .i64 z3, .int .i64 z4] 63) : (results fn tmps).run Try.prog w = .ok (.tuple #[.agg #[.slice A n c, .bool cl], .agg #[.int .i64 z1, .int .i64 z2, .int .i64 z3, .int .i64 z4]]) w := by
  have c0 := h1.cell 0
  have c1 := h1.cell 1
  have d0 := h2.cell 0
  have d1 := h2.cell 1
  have d2 := h2.cell 2
  have d3 := h2.cell 3
  simp at c0 c1 d0 d1 d2 d3
  have e1 : (loadVar 27 ⟨b1, 0, none⟩).run Try.prog w = .ok (.agg #[.slice A n c, .bool cl]) w := by simp [go_sem, *]
  have e2 : (loadVar 63 ⟨b2, 0, none⟩).run Try.prog w = .ok (.agg #[.int .i64 z1, .int .i64 z2, .int .i64 z3, .int .i64 z4]) w := by simp [go_sem, *]
  rw [Array.getD_eq_getD_getElem?] at hp hq
  simp [results, h, hp, hq, asAddr, e1, e2]

theorem bar_any (w : World) : Calls Try.prog 28 #[] w fun e w' => ∃ b, e = .returned (.tuple #[.agg #[.slice (some ⟨b, 0, none⟩) 2 2, .bool false], .agg #[.int .i64 4, .int .i64 0, .int .i64 0, .int .i64 64]]) ∧ Var w' b #[.int .i64 0, .int .i64 0, .int .i64 10, .int .i64 0] 37 ∧ Below w.heap.size w w' := by
  go_enter Try.func28, Try.ntmps28
  go_wp2_with fail
  exact bodyPost_ret (resBar rfl rfl rfl (((Var.new _ _ _ _ rfl).alloc _).alloc _) ((Var.new _ _ _ _ (by simp)).alloc _)) rfl ⟨_, rfl, Var.new _ _ _ _ (by simp), below_alloc (below_alloc (below_alloc (Below.refl _ w) _) _) _⟩

set_option maxHeartbeats 2000000 in
theorem ldashes_any (w : World) : Calls Try.prog 16 #[] w fun e w' => e = .returned (.bool true) ∧ Below w.heap.size w w' := by
  go_enter Try.func16, Try.ntmps16
  go_wp2_with fail
  (with_reducible refine (bar_any _).mono ?_); rintro e w1 ⟨b, rfl, hV, hb⟩
  have HB1 := hid hb
  have HV1 := hid hV
  clear hb hV
  obtain ⟨n1, hn1⟩ : ∃ n1, n1 = w1.heap.size := ⟨_, rfl⟩
  have HL := hid (show w.heap.size ≤ n1 by rw [hn1]; exact HB1.out.size)
  have HA1 := hid (Var.new w1 #[.slice (some ⟨b, 0, none⟩) 2 2, .bool false] 27 n1 hn1)
  go_wp2_with fail
  rw [← hn1]
  obtain ⟨l0, l1, lf⟩ := (HA1.out.alloc (.cells #[.int .i64 4, .int .i64 0, .int .i64 0, .int .i64 64] 63)).read2
  have HB2 := hid (below_alloc (below_alloc HB1.out (.cells #[.slice (some ⟨b, 0, none⟩) 2 2, .bool false] 27)) (.cells #[.int .i64 4, .int .i64 0, .int .i64 0, .int .i64 64] 63))
  have HV2 := hid ((HV1.out.alloc (.cells #[.slice (some ⟨b, 0, none⟩) 2 2, .bool false] 27)).alloc (.cells #[.int .i64 4, .int .i64 0, .int .i64 0, .int .i64 64] 63))
  have HZ2 := hid (show ((w1.alloc (.cells #[.slice (some ⟨b, 0, none⟩) 2 2, .bool false] 27)).alloc (.cells #[.int .i64 4, .int .i64 0, .int .i64 0, .int .i64 64] 63)).heap.size = n1 + 1 + 1 by simp [hn1])
  clear hn1 HA1 HB1 HV1
  generalize (w1.alloc (.cells #[.slice (some ⟨b, 0, none⟩) 2 2, .bool false] 27)).alloc (.cells #[.int .i64 4, .int .i64 0, .int .i64 0, .int .i64 64] 63) = w2 at l0 l1 lf HB2 HV2 HZ2 ⊢
  go_wp2_with fail
  have HV3 := hid (HV2.out.alloc (.cells #[.int .i64 4, .int .i64 2] 3))
  have HP3 := hid (Var.new w2 #[.int .i64 4, .int .i64 2] 3 (n1 + 1 + 1) HZ2.out.symm)
  have HB3 := hid (below_alloc HB2.out (.cells #[.int .i64 4, .int .i64 2] 3))
  clear HB2 HV2 l0 l1 lf
  (with_reducible refine (gdash_any _ _ _ HV3.out HP3.out).mono ?_); rintro e w4 ⟨A, c, e0, e1, rfl, hL, h0, h1, hb⟩
  have HB4 := hid (below_next HB3.out hb)
  clear hb HB3 HV3 HP3
  obtain ⟨a, rfl, hal, hsa⟩ := hL.at_ (show 0 < [e0, e1].length by simp)
  obtain ⟨a', ha', -, hsa'⟩ := hL.at_ (show 1 < [e0, e1].length by simp)
  obtain rfl := Option.some.inj ha'
  obtain ⟨c0, -, hp, -⟩ := hsa
  obtain ⟨d0, -, hq, -⟩ := hsa'
  have c0' : w4.cell? a = some (.slice e0.A 2 e0.c) := by
    have : a.add (0 * 2) = a := by unfold Addr.add; rfl
    rw [← this]; rw [c0]; show some (Value.slice e0.A e0.ps.length e0.c) = _; rw [h0]; rfl
  have d0' : w4.cell? ⟨a.block, a.off + 2, none⟩ = some (.slice e1.A 2 e1.c) := by
    have : a.add (1 * 2) = ⟨a.block, a.off + 2, none⟩ := rfl
    rw [← this]; rw [d0]; show some (Value.slice e1.A e1.ps.length e1.c) = _; rw [h1]; rfl
  have HP0 := hid (show Pts w4 e0.A [⟨0, 0⟩, ⟨3, 0⟩] by rw [← h0]; exact hp)
  have HP1 := hid (show Pts w4 e1.A [⟨5, 0⟩, ⟨9, 0⟩] by rw [← h1]; exact hq)
  have HD0 := hid d0'
  have HX0 := hid (Var.new w4 #[.int .i64 0, .int .i64 0, .int .i64 3, .int .i64 0] 37 _ rfl)
  have HG0 := hid (below_alloc (Below.refl w4.heap.size w4) (.cells #[.int .i64 0, .int .i64 0, .int .i64 3, .int .i64 0] 37))
  have HAL := hid hal
  clear hL h0 h1 hal c0 d0 hp hq d0'
  go_wp2_with fail
  (with_reducible refine (samep_yes e0.A _ 2 e0.c 2 [⟨0, 0⟩, ⟨3, 0⟩] _ rfl (by decide) (HP0.out.next HG0.out) (pts2 (p := ⟨0, 0⟩) (q := ⟨3, 0⟩) HX0.out)).mono ?_); rintro e w5 ⟨rfl, hb⟩
  have HG5 := hid (below_next HG0.out hb)
  have d5 : w5.cell? ⟨a.block, a.off + 2, none⟩ = some (.slice e1.A 2 e1.c) := (HG5.out.cell (p := ⟨a.block, a.off + 2, none⟩) HAL.out).trans HD0.out
  have HX1 := hid (Var.new w5 #[.int .i64 5, .int .i64 0, .int .i64 9, .int .i64 0] 37 _ rfl)
  have HG6 := hid (below_alloc (Below.refl w5.heap.size w5) (.cells #[.int .i64 5, .int .i64 0, .int .i64 9, .int .i64 0] 37))
  have HP5 := hid (HP1.out.next HG5.out)
  have HB5 := hid (below_next HB4.out HG5.out)
  clear hb HP1 HG5 HP0 HX0 HG0 c0' HD0
  go_wp2_with fail
  (with_reducible refine (samep_yes e1.A _ 2 e1.c 2 [⟨5, 0⟩, ⟨9, 0⟩] _ rfl (by decide) (HP5.out.next HG6.out) (pts2 (p := ⟨5, 0⟩) (q := ⟨9, 0⟩) HX1.out)).mono ?_); rintro e w6 ⟨rfl, hb⟩
  have HB6 := hid (below_next HB5.out (below_next HG6.out hb))
  clear hb
  go_wp2_with fail
  go_ret
  exact ⟨rfl, HB6.out⟩

/-- What Length answers. -/
def lenV (ps : List P2) (cl : Bool) : Int := if lchk [⟨ps, cl⟩] = 0 then lenP (walkP ps cl) else 0
theorem dlen_any (A : Option Addr) (ps : List P2) (n c : Nat) (cl : Bool) (w : World) (hn : n = ps.length) (hnl : n ≤ 2000000) (hc : n ≤ c ∧ c ≤ maxLen) (hs : Pts w A ps) :
    Calls Try.prog 15 #[.agg #[.slice A n c, .bool cl]] w fun e w' => e = .returned (.tuple #[.int .i64 (lenV ps cl), .int .i64 (lchk [⟨ps, cl⟩])]) ∧ Below w.heap.size w w' := by
  unfold lenV
  by_cases h : lchk [⟨ps, cl⟩] = 0
  · rw [if_pos h, h]; exact dlen_ok A ps n c cl w hn hnl hc hs h
  · rw [if_neg h]; exact dlen_bad A ps n c cl w hn hc hs h

set_option maxHeartbeats 2000000 in
theorem len_law (A : Option Addr) (n c : Nat) (ps : List P2) (cl : Bool) (w : World) (hn : n = ps.length) (hnl : n ≤ 1048576) (hc : n ≤ c ∧ c ≤ maxLen) (hs : Pts w A ps) :
    Calls Try.prog 5 #[.agg #[.slice A n c, .bool cl]] w fun e w' => e = .returned (.bool true) ∧ Below w.heap.size w w' := by
  have HS := hid hs
  have HN := hid hn
  have HNL := hid hnl
  have HCC := hid hc
  have HB0 := hid (below_alloc (Below.refl w.heap.size w) (.cells #[.slice A n c, .bool cl] 27))
  have HV0 := hid (Var.new w #[.slice A n c, .bool cl] 27 _ rfl)
  clear hs hn hnl hc
  go_enter Try.func5, Try.ntmps5
  go_wp2_with fail
  obtain ⟨b, hb⟩ : ∃ b, b = w.heap.size := ⟨_, rfl⟩
  rw [← hb] at HV0
  rw [← hb]
  clear hb
  (with_reducible refine (ldashes_any _).mono ?_); rintro e w1 ⟨rfl, hb⟩
  have HB1 := hid (below_next HB0.out hb)
  have HV1 := hid (HV0.out.next hb)
  clear hb HB0 HV0
  obtain ⟨l0, l1, lf⟩ := HV1.out.read2
  go_wp2_with fail
  clear l0 l1 lf
  (with_reducible refine (dlen_any A ps n c cl _ HN.out (by have := HNL.out; omega) HCC.out (HS.out.next HB1.out)).mono ?_); rintro e w2 ⟨rfl, hb⟩
  have HB2 := hid (below_next HB1.out hb)
  have HV2 := hid (HV1.out.next hb)
  clear hb HB1 HV1
  obtain ⟨l0, l1, lf⟩ := HV2.out.read2
  obtain ⟨r, hr⟩ : ∃ r, r = lchk [⟨ps, cl⟩] := ⟨_, rfl⟩
  obtain ⟨v, hv⟩ : ∃ v, v = lenV ps cl := ⟨_, rfl⟩
  have HR := hid hr
  have HLV := hid hv
  rw [← hr, ← hv]
  clear hr hv
  go_wp2_with fail
  clear l0 l1 lf
  (with_reducible refine (rlcheck_any _ [⟨ps, cl⟩] 1 1 _ rfl (by decide) (lns_lit HN.out (HS.out.next HB2.out) HCC.out)).mono ?_); rintro e w3 ⟨rfl, hb⟩
  have HB3 := hid (below_next HB2.out (below_next (below_alloc (Below.refl _ _) _) hb))
  have HV3 := hid (HV2.out.next (below_next (below_alloc (Below.refl _ _) _) hb))
  clear hb HB2 HV2
  rw [← HR.out]
  by_cases h0 : r = 0
  · have HZ := hid h0
    obtain rfl := h0
    obtain ⟨l0, l1, lf⟩ := HV3.out.read2
    go_wp2_with fail
    clear l0 l1 lf
    (with_reducible refine (rwalk_any A ps n c cl _ HN.out (by have := HNL.out; omega) (HS.out.next HB3.out) (pin_of HR.out.symm)).mono ?_); rintro e w4 ⟨⟨A1, c1, A2, c2, rfl, -, hi⟩, hb⟩
    have HB4 := hid (below_next HB3.out hb)
    have HI := hid hi
    have HLN := hid (walkP_len ps cl)
    obtain ⟨k, hk⟩ : ∃ k, k = (walkP ps cl).length := ⟨_, rfl⟩
    have HK := hid hk
    rw [← hk] at HI ⊢
    rw [← hk] at HLN
    clear hb hi HB3 HV3 hk
    have hkb : k ≤ 1048577 := by have := HLN.out; have := HN.out; have := HNL.out; omega
    have HVV := hid (show v = lenP (walkP ps cl) by rw [HLV.out]; unfold lenV; rw [if_pos HR.out.symm])
    by_cases hk0 : 0 < k
    · have hk' : (0 : Int) < (k : Int) := by omega
      have hkl : k - 1 < (posL (walkP ps cl) k).length := by rw [posL_len]; omega
      obtain ⟨a, rfl, hal, hg⟩ := HI.out (by intro e; rw [e] at hkl; simp at hkl)
      have hgk := hg (k - 1) _ (posL_get (by omega))
      obtain ⟨j, rfl⟩ : ∃ j, k = j + 1 := ⟨k - 1, by omega⟩
      have hpv : posn (walkP ps cl) j = v := by rw [HVV.out]; unfold lenP; rw [← HK.out]; rfl
      rw [show j + 1 - 1 = j from rfl, hpv] at hgk
      clear hkl hg
      go_wp2_with fail
      go_ret
      exact ⟨rfl, HB4.out⟩
    · have hk' : ¬ (0 : Int) < (k : Int) := by omega
      have h0v : v = 0 := by
        rw [HVV.out]
        unfold lenP
        rw [← HK.out, show k = 0 by omega]
        rfl
      rw [h0v]
      go_wp2_with fail
      go_ret
      exact ⟨rfl, HB4.out⟩
  · have hne : (r != 0) = true := by simpa using h0
    have h0v : v = 0 := by rw [HLV.out]; unfold lenV; rw [if_neg (by rw [← HR.out]; exact h0)]
    rw [h0v]
    go_wp2_with fail
    go_ret
    exact ⟨rfl, HB3.out⟩
end Go.Proofs.Ytjflgblplmgjlaa
