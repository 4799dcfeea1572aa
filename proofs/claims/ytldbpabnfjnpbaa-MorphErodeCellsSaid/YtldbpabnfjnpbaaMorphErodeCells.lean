/- Erode has the cells of which all cells within w are in the region, or the first error (P147, P149): for every input. -/
import Derived.Test.YtldbpabnfjnpbaaRows
import Derived.WalkKit
import Derived.ProofKit
import Derived.OpenShut
import Derived.ChangeOld
import Derived.Below
import Derived.Test.YtldbpabnfjnpbaaOpen
import Derived.Test.YtldbpabnfjnpbaaMRef
namespace Go.Proofs.Ytldbpabnfjnpbaa.morphErodeCells
open Go Go.ChangeShapes Go.WideShapes Go.ChangeAt Go.RowKit Go.Deep
set_option linter.unusedVariables false

set_option maxHeartbeats 8000000 in
set_option maxRecDepth 100000 in
-- caps
theorem rest (A : Option Addr) (n c : Nat) (ss : List Rn) (d : Int) (W : World) (hn : n = ss.length) (hs : Runs W A ss) (hm : ss.length ≤ maxLen) (hcap : n ≤ c ∧ c ≤ maxLen) :
    Calls Try.prog 11 #[.slice A n c, .int .i64 d] W fun e w' => e = .returned (.bool true) ∧ Below W.heap.size W w' := by
  have HS := hid hs
  have HN := hid hn
  have hmn : n ≤ maxLen := by rw [hn]; exact hm
  clear hs hn hm
  go_enter Try.func11, Try.ntmps11
  go_wp2_with fail
  (with_reducible refine (morphs_any _).mono ?_); rintro e w1 ⟨rfl, hb⟩
  have HB1 := hid hb
  have HS1 := hid (HS.out.next hb)
  clear hb HS
  go_wp2_with fail
  (with_reducible refine (short_any A ss n c _ HN.out hcap.1 hcap.2 HS1.out).mono ?_); rintro e w' ⟨⟨m, c', rfl, hm, hm60⟩, rfl⟩
  obtain ⟨xs, hxs⟩ : ∃ xs, xs = ss.take 60 := ⟨_, rfl⟩
  rw [← hxs] at hm
  have HX := hid (show Runs w1 A xs by rw [hxs]; exact HS1.out.take 60)
  have HM := hid hm
  have hmb : m ≤ maxLen := by unfold maxLen; omega
  clear HS1 hxs hm HN hcap hmn
  go_wp2_with fail
  (with_reducible refine (erode_any A xs m c' d _ HM.out hmb HX.out).mono ?_); rintro e w2 ⟨A2, c2, res, rfl, hr, hb, h1, h2⟩
  have HB2 := hid (below_next HB1.out hb)
  have HX2 := hid (HX.out.next hb)
  have HR2 := hid hr
  have H1 := hid h1
  have H2 := hid h2
  clear hr hb h1 h2 HB1 HX
  go_wp2_with fail
  (with_reducible refine (spread_any A xs m c' d _ HM.out hmb HX2.out).mono ?_); rintro e w3 ⟨rfl, hb⟩
  have HB3 := hid (below_next HB2.out hb)
  have HX3 := hid (HX2.out.next hb)
  have HR3 := hid (HR2.out.next hb)
  clear hb HB2 HX2 HR2
  by_cases hE : spE xs d = 0
  · obtain ⟨hc, hd0, hd1⟩ := spE_ok.1 hE
    obtain ⟨D, rfl⟩ : ∃ D : Nat, d = D := ⟨d.toNat, by omega⟩
    have HP := hid (H1.out hE)
    have HC := hid hc
    rw [hE]
    obtain ⟨l, hL⟩ : ∃ l, l = res.length := ⟨_, rfl⟩
    rw [← hL]
    have HL := hid hL
    have hlb : l ≤ maxLen := by rw [hL]; have := chk_len HP.out.v; unfold maxLen; omega
    clear hE hc hL H1 H2
    go_wp2_with (first
      | (go_at_call 42; (with_reducible refine (eroded_any A xs m c' D _ HM.out (by omega) HX3.out HC.out (by omega)).mono ?_); rintro e w4 ⟨v4, rs, rfl, ho, hp, hb, hlen⟩; obtain ⟨A4, c4, hv4, hr4⟩ := ho.is; subst hv4; have HB4 := hid (below_next HB3.out hb); have HR4 := hid (HR3.out.next hb); have HS4 := hid hr4; obtain rfl := HP.out.uniq hp; have hrb := hlb; rw [HL.out] at hrb; clear hb hr4 hp ho)
      | (go_at_call 29; (with_reducible refine (same_any A2 A4 l c2 _ c4 res res _ HL.out rfl hlb hrb HR4.out HS4.out).mono ?_); rintro e w5 ⟨rfl, hb⟩; rw [show decide (res = res) = true from decide_eq_true rfl]; have HB5 := hid (below_next HB4.out hb); clear hb))
    go_ret
    exact ⟨rfl, HB5.out⟩
  · have hE' : (spE xs d != 0) = true := by simpa using hE
    obtain rfl := H2.out hE
    clear hE H1 H2
    go_wp2_with fail
    go_ret
    exact ⟨by simp, HB3.out⟩

set_option maxRecDepth 100000 in
theorem lifted (os : Os) (started : os.Started) (H : Type) (enc : TypeId × Value → H) :
    ReturnsInHanded {} Try.checked os 11 .any (Rows.morphErodeCellsSpec.pre6 enc Try.prog Try.f11 Rows.morphErodeCellsRow.domain false) (Rows.morphErodeCellsSpec.post enc Try.prog Try.f11 false true false false) := by
  refine returnsInHanded_of_change (C := Try.checked) own started (by kernel_rfl) Try.func11
    (ChangeSpec.witness6 (enc := enc) (C := Try.checked) false ⟨#[], #[.slice none 0 0, .int .i64 0], []⟩ 8 (by kernel_rfl) (by kernel_rfl) (by kernel_rfl) (by kernel_rfl)) ?_
  intro W base args ds gs before hval0 hW hcnd _
  have hval : ∀ (j : Nat) t v, Try.f11.params[j]? = some t → args[j]? = some v → Value.okWide Try.prog W .any base t v := hval0
  have hW' := hW
  obtain ⟨p, q, hA0, hV, rfl, hfz, hnd⟩ := hW
  have hA : DataW.TrodAll enc Try.prog W 0 (fun _ => true) true Try.f11.params.toList args.toList ds p := hA0
  rw [Try.params11] at hA hval
  obtain ⟨v0, vs0, d0, ds0, p0, q0, hargs, rfl, rfl, h0, r0⟩ := trodAll_cons hA
  obtain ⟨v1, vs1, d1, ds1, p1, q1, rfl, rfl, rfl, h1, r1⟩ := trodAll_cons r0
  obtain ⟨rfl, rfl, rfl⟩ := trodAll_nil r1
  obtain rfl : args = #[v0, v1] := by cases args; simp_all
  obtain ⟨rfl, rfl⟩ := trodVars_none hV
  have k0 := h0
  have lt0 : ∀ x ∈ p0, x.block < W.heap.size := by obtain ⟨m, hm⟩ := k0; exact DataW.trod_lt m _ _ _ hm
  obtain ⟨A0, n0, c0, ss0, rfl, hn0, hs0, hm0⟩ := open_runs Try.underlying22 Try.underlying37 (by kernel_rfl) (by kernel_rfl) (by kernel_rfl) (hval 0 22 v0 rfl rfl) h0
  have hc0 := open_cap Try.underlying22 h0
  obtain ⟨x1, rfl, rfl, rfl, w1⟩ := open_int Try.underlying3 (hval 1 3 v1 rfl rfl) h1
  clear hA0 hval0
  refine (rest A0 n0 c0 ss0 x1 W hn0 hs0 hm0 hc0).mono fun e W' ⟨he, bel⟩ => ?_
  subst he
  exact ⟨_, rfl, _, _, _, [], _, [], hW', trodAll_mk1 (shut_bool Try.underlying4 _), (trodAll_cons_mk (Below.trod laidOut (by kernel_rfl) (of_decide_eq_true (by kernel_rfl)) k0 bel lt0) (trodAll_cons_mk (shut_int Try.underlying3 w1) trodAll_mk0)), rfl, bel.frame _, fun h => by cases h⟩

theorem over : Rows.morphErodeCellsRow.holds Try.pinned (OpenSpec.ofChange Rows.morphErodeCellsSpec) :=
  OpenClaim.holds_of_wide 11 Try.f11 rfl rfl rfl rfl rfl rfl rfl ⟨rfl, rfl, rfl, rfl, rfl⟩ rfl rfl rfl rfl rfl (by kernel_rfl) Try.func11 (by kernel_rfl)
    (of_decide_eq_true (by kernel_rfl)) (by unfold Func.isWrapper; first | (rw [if_pos (by decide +kernel)]; kernel_rfl) | (rw [if_neg (by decide +kernel)]; exact ⟨rfl, rfl⟩))
    (fun os started H enc _ => lifted os started H enc)

/-- The statement. -/
theorem proved : Rows.MorphErodeCellsSaid := over
end Go.Proofs.Ytldbpabnfjnpbaa.morphErodeCells
