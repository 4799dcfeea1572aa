/- Check of package path returns the first error of the first segment that has one. -/
import Derived.Test.YtbdpjdhnmllkiaaRows
import Derived.WalkKit
import Derived.ProofKit
import Derived.OpenShut
import Derived.ChangeOld
import Derived.Below
import Derived.Test.YtbdpjdhnmllkiaaOpen
import Derived.Test.YtbdpjdhnmllkiaaRCheck
namespace Go.Proofs.Ytbdpjdhnmllkiaa.pathCheckFirst
open Go Go.ChangeShapes Go.WideShapes Go.ChangeAt Go.RowKit Go.Deep
set_option linter.unusedVariables false

theorem one_seg {W : World} {b : Nat} {s : Sg} {t : TypeId} (h : Var W b (cel s) t) : Segs W (some ⟨b, 0, none⟩) [s] := fun _ => ⟨_, rfl, h.lt, fun i q hq => by
  cases i with
  | zero => obtain rfl : s = q := by simpa using hq
            exact h.segAt
  | succ i => simp at hq⟩

theorem rest (A : Option Addr) (n c : Nat) (ss : List Sg) (W : World) (hn : n = ss.length) (hs : Segs W A ss) :
    Calls Try.prog 3 #[.slice A n c] W fun e w' => e = .returned (.bool true) ∧ Below W.heap.size W w' := by
  have HS := hid hs
  have HN := hid hn
  clear hs hn
  go_enter Try.func3, Try.ntmps3
  go_wp2_with fail
  (with_reducible refine (check_any _ [⟨2, 0, 0, 0, 0, 0⟩] 1 _ _ rfl fun _ => one_seg (Var.new W _ _ _ rfl)).mono ?_); rintro e w1 ⟨rfl, hb⟩
  have HB := hid (below_next (below_alloc (Below.refl _ W) _) hb)
  clear hb
  rw [show chk [⟨2, 0, 0, 0, 0, 0⟩] = 18 from by decide]
  go_wp2_with fail
  (with_reducible refine (check_any A ss n c _ HN.out fun _ => HS.out.next HB.out).mono ?_); rintro e w2 ⟨rfl, hb⟩
  replace HB := hid (below_next HB.out hb)
  clear hb
  go_wp2_with fail
  (with_reducible refine (rcheck_any A ss n c _ HN.out fun _ => HS.out.next HB.out).mono ?_); rintro e w3 ⟨rfl, hb⟩
  replace HB := hid (below_next HB.out hb)
  clear hb
  go_wp2_with fail
  go_ret
  exact ⟨rfl, HB.out⟩

set_option maxRecDepth 100000 in
theorem lifted (os : Os) (started : os.Started) (H : Type) (enc : TypeId × Value → H) :
    ReturnsInHanded {} Try.checked os 3 .any (Rows.pathCheckFirstSpec.pre6 enc Try.prog Try.f3 Rows.pathCheckFirstRow.domain false) (Rows.pathCheckFirstSpec.post enc Try.prog Try.f3 false true false false) := by
  refine returnsInHanded_of_change (C := Try.checked) own started (by kernel_rfl) Try.func3
    (ChangeSpec.witness6 (enc := enc) (C := Try.checked) false ⟨#[], #[.slice none 0 0], []⟩ 8 (by kernel_rfl) (by kernel_rfl) (by kernel_rfl) (by kernel_rfl)) ?_
  intro W base args ds gs before hval0 hW hcnd _
  have hval : ∀ (j : Nat) t v, Try.f3.params[j]? = some t → args[j]? = some v → Value.okWide Try.prog W .any base t v := hval0
  have hW' := hW
  obtain ⟨p, q, hA0, hV, rfl, hfz, hnd⟩ := hW
  have hA : DataW.TrodAll enc Try.prog W 0 (fun _ => true) true Try.f3.params.toList args.toList ds p := hA0
  rw [Try.params3] at hA hval
  obtain ⟨v0, vs0, d0, ds0, p0, q0, hargs, rfl, rfl, h0, r0⟩ := trodAll_cons hA
  obtain ⟨rfl, rfl, rfl⟩ := trodAll_nil r0
  obtain rfl : args = #[v0] := by cases args; simp_all
  obtain ⟨rfl, rfl⟩ := trodVars_none hV
  have k0 := h0
  have lt0 : ∀ x ∈ p0, x.block < W.heap.size := by obtain ⟨m, hm⟩ := k0; exact DataW.trod_lt m _ _ _ hm
  obtain ⟨A0, n0, c0, ss0, rfl, hn0, hs0⟩ := open_segs Try.underlying22 Try.underlying26 (by kernel_rfl) (by kernel_rfl) (by kernel_rfl) (hval 0 22 v0 rfl rfl) h0
  clear hA0 hval0
  refine (rest A0 n0 c0 ss0 W hn0 hs0).mono fun e W' ⟨he, bel⟩ => ?_
  subst he
  exact ⟨_, rfl, _, _, _, [], _, [], hW', trodAll_mk1 (shut_bool Try.underlying4 _), (trodAll_cons_mk (Below.trod laidOut (by kernel_rfl) (of_decide_eq_true (by kernel_rfl)) k0 bel lt0) trodAll_mk0), rfl, bel.frame _, fun h => by cases h⟩

theorem over : Rows.pathCheckFirstRow.holds Try.pinned (OpenSpec.ofChange Rows.pathCheckFirstSpec) :=
  OpenClaim.holds_of_wide 3 Try.f3 rfl rfl rfl rfl rfl rfl rfl ⟨rfl, rfl, rfl, rfl, rfl⟩ rfl rfl rfl rfl rfl (by kernel_rfl) Try.func3 (by kernel_rfl)
    (of_decide_eq_true (by kernel_rfl)) (by unfold Func.isWrapper; first | (rw [if_pos (by decide +kernel)]; kernel_rfl) | (rw [if_neg (by decide +kernel)]; exact ⟨rfl, rfl⟩))
    (fun os started H enc _ => lifted os started H enc)

/-- The statement. -/
theorem proved : Rows.PathCheckFirstSaid := over
end Go.Proofs.Ytbdpjdhnmllkiaa.pathCheckFirst
