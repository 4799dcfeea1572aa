/- Open is Dilate of Erode, and Close is Erode of Dilate, or both have the first error (P150): for every input. -/
import Derived.Test.YtldbpabnfjnpbaaRows
import Derived.WalkKit
import Derived.ProofKit
import Derived.OpenShut
import Derived.ChangeOld
import Derived.Below
import Derived.Test.YtldbpabnfjnpbaaOpen
import Derived.Test.YtldbpabnfjnpbaaMRef
namespace Go.Proofs.Ytldbpabnfjnpbaa.morphOpenCloseCells
open Go Go.ChangeShapes Go.WideShapes Go.ChangeAt Go.RowKit Go.Deep
set_option linter.unusedVariables false

set_option maxHeartbeats 8000000 in
set_option maxRecDepth 100000 in
-- caps
theorem rest (A : Option Addr) (n c : Nat) (ss : List Rn) (d : Int) (W : World) (hn : n = ss.length) (hs : Runs W A ss) (hm : ss.length ≤ maxLen) (hcap : n ≤ c ∧ c ≤ maxLen) :
    Calls Try.prog 12 #[.slice A n c, .int .i64 d] W fun e w' => e = .returned (.bool true) ∧ Below W.heap.size W w' := by
  have HS := hid hs
  have HN := hid hn
  have hmn : n ≤ maxLen := by rw [hn]; exact hm
  clear hs hn hm
  go_enter Try.func12, Try.ntmps12
  go_wp2_with fail
  (with_reducible refine (morphs_any _).mono ?_); rintro e w1 ⟨rfl, hb⟩
  have HB1 := hid hb
  have HS1 := hid (HS.out.next hb)
  clear hb HS
  by_cases h12 : 12 < n
  · obtain ⟨a, rfl, -, -⟩ := HS1.out (by intro e; subst e; have := HN.out; simp at this; omega)
    have h1 : decide ((12 : Int) < (n : Int)) = true := decide_eq_true (by omega)
    obtain ⟨hcc1, hcc2⟩ := hcap
    have hcc : 12 ≤ c := by omega
    unfold maxLen at hcc2
    obtain ⟨xs, hxs⟩ : ∃ xs, xs = ss.take 12 := ⟨_, rfl⟩
    have HX := hid (show Runs w1 (some a) xs by rw [hxs]; exact HS1.out.take 12)
    have HM := hid (show 12 = xs.length by rw [hxs, List.length_take]; have := HN.out; omega)
    have hm12 : 12 ≤ 12 := Nat.le_refl _
    have hmb : 12 ≤ maxLen := by decide
    clear HS1 hxs HN hmn h12
    go_wp2_with fail
    clear h1 hcc
    (with_reducible refine (opened_any (some a) xs 12 c d _ HM.out hmb HX.out).mono ?_); rintro e w2 ⟨A2, c2, ro, rfl, hr, hb, h1, h2⟩
    have HB2 := hid (below_next HB1.out hb)
    have HX2 := hid (HX.out.next hb)
    have HR2 := hid hr
    have H1 := hid h1
    have H2 := hid h2
    clear hr hb h1 h2 HB1 HX
    go_wp2_with fail
    (with_reducible refine (closed_any (some a) xs 12 c d _ HM.out hmb HX2.out).mono ?_); rintro e w3 ⟨A3, c3, rc, rfl, hr, hb, h1, h2⟩
    have HB3 := hid (below_next HB2.out hb)
    have HX3 := hid (HX2.out.next hb)
    have HR3 := hid (HR2.out.next hb)
    have HT3 := hid hr
    have H3 := hid h1
    have H4 := hid h2
    clear hr hb h1 h2 HB2 HX2 HR2
    go_wp2_with fail
    (with_reducible refine (spread_any (some a) xs 12 c d _ HM.out hmb HX3.out).mono ?_); rintro e w4 ⟨rfl, hb⟩
    have HB4 := hid (below_next HB3.out hb)
    have HX4 := hid (HX3.out.next hb)
    have HR4 := hid (HR3.out.next hb)
    have HT4 := hid (HT3.out.next hb)
    clear hb HB3 HX3 HR3 HT3
    by_cases hE : spE xs d = 0
    · obtain ⟨hc, hd0, hd1⟩ := spE_ok.1 hE
      obtain ⟨D, rfl⟩ : ∃ D : Nat, d = D := ⟨d.toNat, by omega⟩
      have HP := hid (H1.out hE)
      have HQ := hid (H3.out hE)
      have HC := hid hc
      rw [hE]
      have hov : chk ro = 0 := by obtain ⟨s, -, h⟩ := HP.out; exact h.v
      have hcv : chk rc = 0 := by obtain ⟨s, -, h⟩ := HQ.out; exact h.v
      obtain ⟨lo, hL⟩ : ∃ l, l = ro.length := ⟨_, rfl⟩
      rw [← hL]
      have HLO := hid hL
      have hlo : lo ≤ maxLen := by rw [hL]; have := chk_len hov; unfold maxLen; omega
      clear hL
      obtain ⟨lc, hL⟩ : ∃ l, l = rc.length := ⟨_, rfl⟩
      rw [← hL]
      have HLC := hid hL
      have hlc : lc ≤ maxLen := by rw [hL]; have := chk_len hcv; unfold maxLen; omega
      clear hE hc hL H1 H2 H3 H4 hov hcv
      go_wp2_with (first
        | (go_at_call_of 42 (Value.slice (some a) 12 c); (with_reducible refine (eroded_any (some a) xs 12 c D _ HM.out (by omega) HX4.out HC.out (by omega)).mono ?_); rintro e w5 ⟨v5, r1, rfl, ho, hp1, hb, hlen1⟩; obtain ⟨A5, c5, hv5, hr5⟩ := ho.is; subst hv5; have HB5 := hid (below_next HB4.out hb); have HX5 := hid (HX4.out.next hb); have HR5 := hid (HR4.out.next hb); have HT5 := hid (HT4.out.next hb); have HU5 := hid hr5; have HP1 := hid hp1; have hl1 : r1.length ≤ 300 := Nat.le_trans hlen1 (Nat.le_trans (Nat.mul_le_mul hm12 (Nat.mul_le_mul_left 2 hm12)) (by decide)); clear hb hr5 hp1 ho hlen1)
        | (go_at_call_of 41 (Value.slice A5 r1.length c5); (with_reducible refine (dilated_any A5 r1 _ c5 D _ rfl hl1 HU5.out HP1.out.v (by omega)).mono ?_); rintro e w6 ⟨v6, r2, rfl, ho, hp2, hb, -⟩; obtain ⟨A6, c6, hv6, hr6⟩ := ho.is; subst hv6; have HB6 := hid (below_next HB5.out hb); have HX6 := hid (HX5.out.next hb); have HR6 := hid (HR5.out.next hb); have HT6 := hid (HT5.out.next hb); have HU6 := hid hr6; have HE6 : Hid (ro = r2) := hid (by obtain ⟨s, g1, g2⟩ := HP.out; rw [g1.uniq HP1.out] at g2; exact g2.uniq hp2); have hl2 : r2.length ≤ maxLen := (by have := chk_len hp2.v; unfold maxLen; omega); clear hb hr6 hp2 ho)
        | (go_at_call_of 29 (Value.slice A2 lo c2); (with_reducible refine (same_any A2 A6 lo c2 _ c6 ro r2 _ HLO.out rfl hlo hl2 HR6.out HU6.out).mono ?_); rintro e w7 ⟨rfl, hb⟩; rw [show decide (ro = r2) = true from decide_eq_true HE6.out]; have HB7 := hid (below_next HB6.out hb); have HX7 := hid (HX6.out.next hb); have HT7 := hid (HT6.out.next hb); clear hb)
        | (go_at_call_of 41 (Value.slice (some a) 12 c); (with_reducible refine (dilated_any (some a) xs 12 c D _ HM.out (by omega) HX7.out HC.out (by omega)).mono ?_); rintro e w8 ⟨v8, r3, rfl, ho, hp3, hb, hlen3⟩; obtain ⟨A8, c8, hv8, hr8⟩ := ho.is; subst hv8; have HB8 := hid (below_next HB7.out hb); have HT8 := hid (HT7.out.next hb); have HU8 := hid hr8; have HP3 := hid hp3; have hl3 : r3.length ≤ 40000 := Nat.le_trans hlen3 (Nat.le_trans (Nat.mul_le_mul (Nat.mul_le_mul_left 129 hm12) (Nat.mul_le_mul_left 2 hm12)) (by decide)); clear hb hr8 hp3 ho hlen3)
        | (go_at_call_of 42 (Value.slice A8 r3.length c8); (with_reducible refine (eroded_any A8 r3 _ c8 D _ rfl hl3 HU8.out HP3.out.v (by omega)).mono ?_); rintro e w9 ⟨v9, r4, rfl, ho, hp4, hb, -⟩; obtain ⟨A9, c9, hv9, hr9⟩ := ho.is; subst hv9; have HB9 := hid (below_next HB8.out hb); have HT9 := hid (HT8.out.next hb); have HU9 := hid hr9; have HE9 : Hid (rc = r4) := hid (by obtain ⟨s, g1, g2⟩ := HQ.out; rw [g1.uniq HP3.out] at g2; exact g2.uniq hp4); have hl4 : r4.length ≤ maxLen := (by have := chk_len hp4.v; unfold maxLen; omega); clear hb hr9 hp4 ho)
        | (go_at_call_of 29 (Value.slice A3 lc c3); (with_reducible refine (same_any A3 A9 lc c3 _ c9 rc r4 _ HLC.out rfl hlc hl4 HT9.out HU9.out).mono ?_); rintro e w10 ⟨rfl, hb⟩; rw [show decide (rc = r4) = true from decide_eq_true HE9.out]; have HB10 := hid (below_next HB9.out hb); clear hb))
      go_ret
      exact ⟨rfl, HB10.out⟩
    · have hE' : (spE xs d != 0) = true := by simpa using hE
      obtain rfl := H2.out hE
      obtain rfl := H4.out hE
      clear hE H1 H2 H3 H4
      go_wp2_with fail
      go_ret
      exact ⟨by simp, HB4.out⟩
  · have h1 : decide ((12 : Int) < (n : Int)) = false := decide_eq_false (by omega)
    obtain ⟨hcc1, hcc2⟩ := hcap
    obtain ⟨xs, hxs⟩ : ∃ xs, xs = ss := ⟨_, rfl⟩
    have HX := hid (show Runs w1 A xs by rw [hxs]; exact HS1.out)
    have HM := hid (show n = xs.length by rw [hxs]; exact HN.out)
    have hm12 : n ≤ 12 := by omega
    have hmb : n ≤ maxLen := hmn
    clear HS1 hxs HN hmn h12
    go_wp2_with fail
    clear h1
    (with_reducible refine (opened_any A xs n c d _ HM.out hmb HX.out).mono ?_); rintro e w2 ⟨A2, c2, ro, rfl, hr, hb, h1, h2⟩
    have HB2 := hid (below_next HB1.out hb)
    have HX2 := hid (HX.out.next hb)
    have HR2 := hid hr
    have H1 := hid h1
    have H2 := hid h2
    clear hr hb h1 h2 HB1 HX
    go_wp2_with fail
    (with_reducible refine (closed_any A xs n c d _ HM.out hmb HX2.out).mono ?_); rintro e w3 ⟨A3, c3, rc, rfl, hr, hb, h1, h2⟩
    have HB3 := hid (below_next HB2.out hb)
    have HX3 := hid (HX2.out.next hb)
    have HR3 := hid (HR2.out.next hb)
    have HT3 := hid hr
    have H3 := hid h1
    have H4 := hid h2
    clear hr hb h1 h2 HB2 HX2 HR2
    go_wp2_with fail
    (with_reducible refine (spread_any A xs n c d _ HM.out hmb HX3.out).mono ?_); rintro e w4 ⟨rfl, hb⟩
    have HB4 := hid (below_next HB3.out hb)
    have HX4 := hid (HX3.out.next hb)
    have HR4 := hid (HR3.out.next hb)
    have HT4 := hid (HT3.out.next hb)
    clear hb HB3 HX3 HR3 HT3
    by_cases hE : spE xs d = 0
    · obtain ⟨hc, hd0, hd1⟩ := spE_ok.1 hE
      obtain ⟨D, rfl⟩ : ∃ D : Nat, d = D := ⟨d.toNat, by omega⟩
      have HP := hid (H1.out hE)
      have HQ := hid (H3.out hE)
      have HC := hid hc
      rw [hE]
      have hov : chk ro = 0 := by obtain ⟨s, -, h⟩ := HP.out; exact h.v
      have hcv : chk rc = 0 := by obtain ⟨s, -, h⟩ := HQ.out; exact h.v
      obtain ⟨lo, hL⟩ : ∃ l, l = ro.length := ⟨_, rfl⟩
      rw [← hL]
      have HLO := hid hL
      have hlo : lo ≤ maxLen := by rw [hL]; have := chk_len hov; unfold maxLen; omega
      clear hL
      obtain ⟨lc, hL⟩ : ∃ l, l = rc.length := ⟨_, rfl⟩
      rw [← hL]
      have HLC := hid hL
      have hlc : lc ≤ maxLen := by rw [hL]; have := chk_len hcv; unfold maxLen; omega
      clear hE hc hL H1 H2 H3 H4 hov hcv
      go_wp2_with (first
        | (go_at_call_of 42 (Value.slice A n c); (with_reducible refine (eroded_any A xs n c D _ HM.out (by omega) HX4.out HC.out (by omega)).mono ?_); rintro e w5 ⟨v5, r1, rfl, ho, hp1, hb, hlen1⟩; obtain ⟨A5, c5, hv5, hr5⟩ := ho.is; subst hv5; have HB5 := hid (below_next HB4.out hb); have HX5 := hid (HX4.out.next hb); have HR5 := hid (HR4.out.next hb); have HT5 := hid (HT4.out.next hb); have HU5 := hid hr5; have HP1 := hid hp1; have hl1 : r1.length ≤ 300 := Nat.le_trans hlen1 (Nat.le_trans (Nat.mul_le_mul hm12 (Nat.mul_le_mul_left 2 hm12)) (by decide)); clear hb hr5 hp1 ho hlen1)
        | (go_at_call_of 41 (Value.slice A5 r1.length c5); (with_reducible refine (dilated_any A5 r1 _ c5 D _ rfl hl1 HU5.out HP1.out.v (by omega)).mono ?_); rintro e w6 ⟨v6, r2, rfl, ho, hp2, hb, -⟩; obtain ⟨A6, c6, hv6, hr6⟩ := ho.is; subst hv6; have HB6 := hid (below_next HB5.out hb); have HX6 := hid (HX5.out.next hb); have HR6 := hid (HR5.out.next hb); have HT6 := hid (HT5.out.next hb); have HU6 := hid hr6; have HE6 : Hid (ro = r2) := hid (by obtain ⟨s, g1, g2⟩ := HP.out; rw [g1.uniq HP1.out] at g2; exact g2.uniq hp2); have hl2 : r2.length ≤ maxLen := (by have := chk_len hp2.v; unfold maxLen; omega); clear hb hr6 hp2 ho)
        | (go_at_call_of 29 (Value.slice A2 lo c2); (with_reducible refine (same_any A2 A6 lo c2 _ c6 ro r2 _ HLO.out rfl hlo hl2 HR6.out HU6.out).mono ?_); rintro e w7 ⟨rfl, hb⟩; rw [show decide (ro = r2) = true from decide_eq_true HE6.out]; have HB7 := hid (below_next HB6.out hb); have HX7 := hid (HX6.out.next hb); have HT7 := hid (HT6.out.next hb); clear hb)
        | (go_at_call_of 41 (Value.slice A n c); (with_reducible refine (dilated_any A xs n c D _ HM.out (by omega) HX7.out HC.out (by omega)).mono ?_); rintro e w8 ⟨v8, r3, rfl, ho, hp3, hb, hlen3⟩; obtain ⟨A8, c8, hv8, hr8⟩ := ho.is; subst hv8; have HB8 := hid (below_next HB7.out hb); have HT8 := hid (HT7.out.next hb); have HU8 := hid hr8; have HP3 := hid hp3; have hl3 : r3.length ≤ 40000 := Nat.le_trans hlen3 (Nat.le_trans (Nat.mul_le_mul (Nat.mul_le_mul_left 129 hm12) (Nat.mul_le_mul_left 2 hm12)) (by decide)); clear hb hr8 hp3 ho hlen3)
        | (go_at_call_of 42 (Value.slice A8 r3.length c8); (with_reducible refine (eroded_any A8 r3 _ c8 D _ rfl hl3 HU8.out HP3.out.v (by omega)).mono ?_); rintro e w9 ⟨v9, r4, rfl, ho, hp4, hb, -⟩; obtain ⟨A9, c9, hv9, hr9⟩ := ho.is; subst hv9; have HB9 := hid (below_next HB8.out hb); have HT9 := hid (HT8.out.next hb); have HU9 := hid hr9; have HE9 : Hid (rc = r4) := hid (by obtain ⟨s, g1, g2⟩ := HQ.out; rw [g1.uniq HP3.out] at g2; exact g2.uniq hp4); have hl4 : r4.length ≤ maxLen := (by have := chk_len hp4.v; unfold maxLen; omega); clear hb hr9 hp4 ho)
        | (go_at_call_of 29 (Value.slice A3 lc c3); (with_reducible refine (same_any A3 A9 lc c3 _ c9 rc r4 _ HLC.out rfl hlc hl4 HT9.out HU9.out).mono ?_); rintro e w10 ⟨rfl, hb⟩; rw [show decide (rc = r4) = true from decide_eq_true HE9.out]; have HB10 := hid (below_next HB9.out hb); clear hb))
      go_ret
      exact ⟨rfl, HB10.out⟩
    · have hE' : (spE xs d != 0) = true := by simpa using hE
      obtain rfl := H2.out hE
      obtain rfl := H4.out hE
      clear hE H1 H2 H3 H4
      go_wp2_with fail
      go_ret
      exact ⟨by simp, HB4.out⟩

set_option maxRecDepth 100000 in
theorem lifted (os : Os) (started : os.Started) (H : Type) (enc : TypeId × Value → H) :
    ReturnsInHanded {} Try.checked os 12 .any (Rows.morphOpenCloseCellsSpec.pre6 enc Try.prog Try.f12 Rows.morphOpenCloseCellsRow.domain false) (Rows.morphOpenCloseCellsSpec.post enc Try.prog Try.f12 false true false false) := by
  refine returnsInHanded_of_change (C := Try.checked) own started (by kernel_rfl) Try.func12
    (ChangeSpec.witness6 (enc := enc) (C := Try.checked) false ⟨#[], #[.slice none 0 0, .int .i64 0], []⟩ 8 (by kernel_rfl) (by kernel_rfl) (by kernel_rfl) (by kernel_rfl)) ?_
  intro W base args ds gs before hval0 hW hcnd _
  have hval : ∀ (j : Nat) t v, Try.f12.params[j]? = some t → args[j]? = some v → Value.okWide Try.prog W .any base t v := hval0
  have hW' := hW
  obtain ⟨p, q, hA0, hV, rfl, hfz, hnd⟩ := hW
  have hA : DataW.TrodAll enc Try.prog W 0 (fun _ => true) true Try.f12.params.toList args.toList ds p := hA0
  rw [Try.params12] at hA hval
  obtain ⟨v0, vs0, d0, ds0, p0, q0, hargs, rfl, rfl, h0, r0⟩ := trodAll_cons hA
  obtain ⟨v1, vs1, d1, ds1, p1, q1, rfl, rfl, rfl, h1, r1⟩ := trodAll_cons r0
  obtain ⟨rfl, rfl, rfl⟩ := trodAll_nil r1
  obtain rfl : args = #[v0, v1] := by cases args; simp_all
  obtain ⟨rfl, rfl⟩ := trodVars_none hV
  have k0 := h0
  have lt0 : ∀ x ∈ p0, x.block < W.heap.size := by obtain ⟨m, hm⟩ := k0; exact DataW.trod_lt m _ _ _ hm
  obtain ⟨A0, n0, c0, ss0, rfl, hn0, hs0, hm0⟩ := open_runs Try.underlying22 Try.underlying37 (by kernel_rfl) (by kernel_rfl) (by kernel_rfl) (hval 0 22 v0 rfl rfl) h0
  have hc0 := open_cap Try.underlying22 h0
  obtain ⟨x1, rfl, rfl, rfl, w1⟩ := open_int Try.underlying3 (hval 1 3 v1 rfl rfl) h1
  clear hA0 hval0
  refine (rest A0 n0 c0 ss0 x1 W hn0 hs0 hm0 hc0).mono fun e W' ⟨he, bel⟩ => ?_
  subst he
  exact ⟨_, rfl, _, _, _, [], _, [], hW', trodAll_mk1 (shut_bool Try.underlying4 _), (trodAll_cons_mk (Below.trod laidOut (by kernel_rfl) (of_decide_eq_true (by kernel_rfl)) k0 bel lt0) (trodAll_cons_mk (shut_int Try.underlying3 w1) trodAll_mk0)), rfl, bel.frame _, fun h => by cases h⟩

theorem over : Rows.morphOpenCloseCellsRow.holds Try.pinned (OpenSpec.ofChange Rows.morphOpenCloseCellsSpec) :=
  OpenClaim.holds_of_wide 12 Try.f12 rfl rfl rfl rfl rfl rfl rfl ⟨rfl, rfl, rfl, rfl, rfl⟩ rfl rfl rfl rfl rfl (by kernel_rfl) Try.func12 (by kernel_rfl)
    (of_decide_eq_true (by kernel_rfl)) (by unfold Func.isWrapper; first | (rw [if_pos (by decide +kernel)]; kernel_rfl) | (rw [if_neg (by decide +kernel)]; exact ⟨rfl, rfl⟩))
    (fun os started H enc _ => lifted os started H enc)

/-- The statement. -/
theorem proved : Rows.MorphOpenCloseCellsSaid := over
end Go.Proofs.Ytldbpabnfjnpbaa.morphOpenCloseCells
