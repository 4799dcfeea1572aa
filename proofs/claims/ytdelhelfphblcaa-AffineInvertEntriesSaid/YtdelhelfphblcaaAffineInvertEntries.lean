/- The statement AffineInvertEntries returns true for every map of six ints, and changes no argument; there is no further condition. -/
import Derived.Test.YtdelhelfphblcaaRows
import Derived.WalkKit
import Derived.ProofKit
import Derived.OpenShut
import Derived.ChangeOld
import Derived.Below
import Derived.Test.YtdelhelfphblcaaOpen
import Derived.Test.YtdelhelfphblcaaRInv
namespace Go.Proofs.Ytdelhelfphblcaa.affineInvertEntries
open Go Go.ChangeShapes Go.WideShapes Go.ChangeAt Go.RowKit Go.Deep
set_option linter.unusedVariables false

theorem inv_known : InvIs 8192 0 0 4096 0 0 (mx 2048 0 0 4096 0 0) 0 := by
  unfold InvIs
  rw [if_pos (by decide), if_neg (by decide)]
  exact ⟨fun _ _ => ⟨rfl, rfl⟩, fun _ h => absurd (by decide) h, fun h => absurd rfl h⟩

theorem rest (a b c d e f : Int) (w : World) :
    Calls Try.prog 9 #[mx a b c d e f] w fun r w' => r = .returned (.bool true) ∧ Below w.heap.size w w' := by
  obtain ⟨v0, v1, v2, v3, v4, v5, r, hr⟩ : ∃ v0 v1 v2 v3 v4 v5 r, InvIs a b c d e f (mx v0 v1 v2 v3 v4 v5) r := MapIs.mk' ..
  have HR := hid hr
  clear hr
  have HV0 := hid (Var.new w #[.int .i64 a, .int .i64 b, .int .i64 c, .int .i64 d, .int .i64 e, .int .i64 f] 23 _ rfl)
  have HB0 := hid (below_alloc (Below.refl _ w) (.cells #[.int .i64 a, .int .i64 b, .int .i64 c, .int .i64 d, .int .i64 e, .int .i64 f] 23))
  go_enter Try.func9, Try.ntmps9
  go_wp2_with fail
  (with_reducible refine (inv_any _ _ _ _ _ _ _ _ _ _ _ _ _ _ inv_known).mono ?_); rintro x w1 ⟨rfl, hb⟩
  have HV01 := hid (HV0.out.next hb)
  have HB1 := hid (below_next HB0.out hb)
  clear hb HV0 HB0
  obtain ⟨p0, p1, p2, p3, p4, p5, pf⟩ := HV01.out.read6
  have t0 := HV01.out.lt
  go_wp2_with fail
  clear p0 p1 p2 p3 p4 p5 pf t0
  (with_reducible refine (inv_any _ _ _ _ _ _ _ _ _ _ _ _ _ _ HR.out).mono ?_); rintro x w2 ⟨rfl, hb⟩
  have HV02 := hid ((HV01.out.alloc _).next hb)
  have HB2 := hid (below_next (below_alloc HB1.out _) hb)
  clear hb HV01 HB1
  obtain ⟨p0, p1, p2, p3, p4, p5, pf⟩ := HV02.out.read6
  have t0 := HV02.out.lt
  go_wp2_with fail
  clear p0 p1 p2 p3 p4 p5 pf t0
  (with_reducible refine (rinv_any _ _ _ _ _ _ _ _ _ _ _ _ _ _ HR.out).mono ?_); rintro x w3 ⟨rfl, hb⟩
  have HVa := hid ((Var.new w2 #[.int .i64 v0, .int .i64 v1, .int .i64 v2, .int .i64 v3, .int .i64 v4, .int .i64 v5] 23 _ rfl).next hb)
  have HB3 := hid (below_next (below_alloc HB2.out _) hb)
  clear hb HV02 HB2
  obtain ⟨p0, p1, p2, p3, p4, p5, pf⟩ := HVa.out.read6
  have t0 := HVa.out.lt
  go_wp2_with fail
  clear p0 p1 p2 p3 p4 p5 pf t0
  go_ret
  exact ⟨rfl, by repeat (first | exact HB3.out | apply below_drewN | apply Below.drew | apply below_alloc)⟩

set_option maxRecDepth 100000 in
theorem lifted (os : Os) (started : os.Started) (H : Type) (enc : TypeId × Value → H) :
    ReturnsInHanded {} Try.checked os 9 .any (Rows.affineInvertEntriesSpec.pre6 enc Try.prog Try.f9 Rows.affineInvertEntriesRow.domain false) (Rows.affineInvertEntriesSpec.post enc Try.prog Try.f9 false true false false) := by
  refine returnsInHanded_of_change (C := Try.checked) own started (by kernel_rfl) Try.func9
    (ChangeSpec.witness6 (enc := enc) (C := Try.checked) false ⟨#[], #[.agg #[.int .i64 0, .int .i64 0, .int .i64 0, .int .i64 0, .int .i64 0, .int .i64 0]], []⟩ 8 (by kernel_rfl) (by kernel_rfl) (by kernel_rfl) (by kernel_rfl)) ?_
  intro W base args ds gs before hval0 hW hcnd _
  have hval : ∀ (j : Nat) t v, Try.f9.params[j]? = some t → args[j]? = some v → Value.okWide Try.prog W .any base t v := hval0
  have hW' := hW
  obtain ⟨p, q, hA0, hV, rfl, hfz, hnd⟩ := hW
  have hA : DataW.TrodAll enc Try.prog W 0 (fun _ => true) true Try.f9.params.toList args.toList ds p := hA0
  rw [Try.params9] at hA hval
  obtain ⟨v0, vs0, d0, ds0, p0, q0, hargs, rfl, rfl, h0, r0⟩ := trodAll_cons hA
  obtain ⟨rfl, rfl, rfl⟩ := trodAll_nil r0
  obtain rfl : args = #[v0] := by cases args; simp_all
  obtain ⟨rfl, rfl⟩ := trodVars_none hV
  have k0 := h0
  have lt0 : ∀ x ∈ p0, x.block < W.heap.size := by obtain ⟨m, hm⟩ := k0; exact DataW.trod_lt m _ _ _ hm
  obtain ⟨x0_0, x0_1, x0_2, x0_3, x0_4, x0_5, rfl⟩ := open_mx Try.underlying23 (by kernel_rfl) (by kernel_rfl) (by kernel_rfl) (hval 0 23 v0 rfl rfl) h0
  clear hA0 hval0
  refine (rest x0_0 x0_1 x0_2 x0_3 x0_4 x0_5 W).mono fun e W' ⟨he, bel⟩ => ?_
  subst he
  exact ⟨_, rfl, _, _, _, [], _, [], hW', trodAll_mk1 (shut_bool Try.underlying4 _), (trodAll_cons_mk (Below.trod laidOut (by kernel_rfl) (of_decide_eq_true (by kernel_rfl)) k0 bel lt0) trodAll_mk0), rfl, bel.frame _, fun h => by cases h⟩

theorem over : Rows.affineInvertEntriesRow.holds Try.pinned (OpenSpec.ofChange Rows.affineInvertEntriesSpec) :=
  OpenClaim.holds_of_wide 9 Try.f9 rfl rfl rfl rfl rfl rfl rfl ⟨rfl, rfl, rfl, rfl, rfl⟩ rfl rfl rfl rfl rfl (by kernel_rfl) Try.func9 (by kernel_rfl)
    (of_decide_eq_true (by kernel_rfl)) (by unfold Func.isWrapper; first | (rw [if_pos (by decide +kernel)]; kernel_rfl) | (rw [if_neg (by decide +kernel)]; exact ⟨rfl, rfl⟩))
    (fun os started H enc _ => lifted os started H enc)

/-- The statement. -/
theorem proved : Rows.AffineInvertEntriesSaid := over
end Go.Proofs.Ytdelhelfphblcaa.affineInvertEntries
