/- The statement RasterChecks returns true for all integers w and h, all bytes pix and each byte v, and changes no argument; there is no further condition. -/
import Derived.Test.YtdjjijkdalpggaaRows
import Derived.WalkKit
import Derived.ProofKit
import Derived.OpenShut
import Derived.ShutString
import Derived.ChangeOld
import Derived.Below
import Derived.Test.YtdjjijkdalpggaaKnown
import Derived.Test.YtdjjijkdalpggaaMake
namespace Go.Proofs.Ytdjjijkdalpggaa.rasterChecks
open Go Go.ChangeShapes Go.WideShapes Go.ChangeAt Go.RowKit
open Go.ChangeMaps (open_string shut_string)
set_option linter.unusedVariables false

theorem own : ownKnob Try.prog.godebug = none := by kernel_rfl
theorem laidOut : laidOutB Try.prog = true := by kernel_rfl

/-- WHAT THE WALK IS TOLD OF A SLICE OF INTEGERS THAT CAME IN: it is nil; or it leads to a row of 'cap' cells, the numbers 'zs' (the first 'len' are its elements, the rest its spare room), each fitting its kind. -/
def IsRow (k : IntKind) (w : World) (a : Option Addr) (len cap : Nat) (zs : List Int) : Prop :=
  (a = none ∧ len = 0 ∧ cap = 0 ∧ zs = []) ∨
  ∃ x, a = some x ∧ len ≤ cap ∧ cap ≤ maxLen ∧ zs.length = cap ∧ (∀ i, i < zs.length → w.cell? (x.add i) = some (.int k (zs.getD i 0))) ∧ ∀ n ∈ zs, (Lit.int k n).wf = true

set_option maxHeartbeats 2000000 in
theorem good (a0 : Int) (a1 : Int) (a2 : Option Addr) (len2 cap2 : Nat) (a3 : Int) (e0 : Int) (w : World) (h1 : 1 ≤ a0 ∧ a0 ≤ 1024) (h2 : 1 ≤ a1 ∧ a1 ≤ 1024)
    (hne : e0 = 0 ∧ ((len2 : Int) != a0 * a1) = false ∨ e0 = 4 ∧ ((len2 : Int) != a0 * a1) = true)
    (hck : ∀ w, Calls Try.prog 25 #[grid a0 a1 (.slice a2 len2 cap2)] w fun e w' => e = .returned (.int .i64 e0) ∧ Below w.heap.size w w') :
    Calls Try.prog 6 #[.int .i64 a0, .int .i64 a1, .slice a2 len2 cap2, .int .u8 a3] w fun e w' => e = .returned (.bool true) ∧ Below w.heap.size w w' := by
  have b1 := btw_yes h1
  have b2 := btw_yes h2
  have HCK := Lib.hid hck
  clear hck
  obtain ⟨m1, m2⟩ := mul_bds (show 0 ≤ a0 by omega) h1.2 (show 0 ≤ a1 by omega) h2.2
  have hv : (a3 != a3) = false := by simp
  rcases hne with ⟨rfl, hne⟩ | ⟨rfl, hne⟩
  all_goals
    go_enter Try.func6, Try.ntmps6
    go_wp2_with fail
    (with_reducible refine (known_any _).mono ?_); rintro e w1 ⟨rfl, hb1⟩
    go_wp2_with (go_at_call 24; (with_reducible refine (in_any _ _ _ _).mono ?_); rintro e w' ⟨rfl, rfl⟩)
    (with_reducible refine (HCK.out _).mono ?_); rintro e w2 ⟨rfl, hb2⟩
    clear b1 b2 hne m1 m2
    go_wp2_with fail
    (with_reducible refine (cutl_in _ _ _ _ (by omega) (by omega) (by omega) (by omega)).mono ?_); rintro e w3 ⟨p, hp1, hp2, rfl, rfl⟩
    go_wp2_with fail
    (with_reducible refine (cutl_in _ _ _ _ (by omega) (by omega) (by omega) (by omega)).mono ?_); rintro e w3 ⟨q, hq1, hq2, rfl, rfl⟩
    obtain ⟨W, rfl⟩ := Int.eq_ofNat_of_zero_le (show 0 ≤ p by omega)
    obtain ⟨H, rfl⟩ := Int.eq_ofNat_of_zero_le (show 0 ≤ q by omega)
    have eW : ((W : Int) == W) = true := by simp
    have eH : ((H : Int) == H) = true := by simp
    obtain ⟨m1, m2⟩ := mul_bds (show (0 : Int) ≤ W by omega) hp2 (show (0 : Int) ≤ H by omega) hq2
    have eN : ((W * H : Nat) : Int) = (W : Int) * H := Int.natCast_mul _ _
    have EN := hid eN
    have hN : W * H ≤ 1600 := by omega
    have eP : ((W : Int) * H == (W : Int) * H) = true := by simp
    clear eN
    go_wp2_with fail
    (with_reducible refine (make_ok W H a3 _ (by omega) (by omega)).mono ?_); rintro e w4 ⟨g, c, rfl, ho, hb4⟩
    have HO := hid ho
    obtain ⟨N, hNe⟩ : ∃ N : Nat, N = W * H := ⟨_, rfl⟩
    have eN2 : (N : Int) = (W : Int) * H := by rw [hNe]; exact EN.out
    rw [← hNe]
    rw [← hNe] at hN
    have HN := hid eN2
    have HNe := hid hNe
    have hB := below_next (below_next hb1 hb2) hb4
    have HB := hid hB
    clear ho hb4 hB hb1 hb2 hNe
    have eL : ((N : Int) == (W : Int) * H) = true := by rw [eN2]; simp
    clear eN2
    have hg := HO.out.lt.2
    go_wp2_with fail
    go_loop [14, 80] (fun _ s80 => ∃ k : Nat, k ≤ N ∧ s80 = .int .i64 k) (fun _ s80 => N - (intOf s80).toNat)
    case atStart => exact ⟨0, Nat.zero_le _, rfl⟩
    case round =>
      obtain ⟨k, hk, rfl⟩ := hrel
      by_cases hlt : k < N
      · have hc := HO.out.px k (by rw [← HNe.out]; exact hlt)
        rw [Nat.zero_add] at hc
        go_wp2
        go_round
        case rel => exact ⟨k + 1, by omega, by go_num⟩
        case measure => simp [intOf]; omega
      · go_wp2
        go_ret
        exact ⟨rfl, below_alloc HB.out _⟩

set_option maxHeartbeats 2000000 in
theorem bad (a0 : Int) (a1 : Int) (a2 : Option Addr) (len2 cap2 : Nat) (a3 : Int) (w : World) (h : ¬ ((1 ≤ a0 ∧ a0 ≤ 1024) ∧ (1 ≤ a1 ∧ a1 ≤ 1024))) :
    Calls Try.prog 6 #[.int .i64 a0, .int .i64 a1, .slice a2 len2 cap2, .int .u8 a3] w fun e w' => e = .returned (.bool true) ∧ Below w.heap.size w w' := by
  have H := hid h
  have hb : btwB a0 1 1024 = false ∨ btwB a0 1 1024 = true ∧ btwB a1 1 1024 = false := by
    by_cases h1 : 1 ≤ a0 ∧ a0 ≤ 1024
    · exact .inr ⟨btw_yes h1, btw_no fun k => h ⟨h1, k⟩⟩
    · exact .inl (btw_no h1)
  clear h
  rcases hb with b1 | ⟨b1, b2⟩
  all_goals
    go_enter Try.func6, Try.ntmps6
    go_wp2_with fail
    (with_reducible refine (known_any _).mono ?_); rintro e w1 ⟨rfl, hb1⟩
    go_wp2_with (go_at_call 24; (with_reducible refine (in_any _ _ _ _).mono ?_); rintro e w' ⟨rfl, rfl⟩)
    (with_reducible refine (check_range _ _ _ _ H.out).mono ?_); rintro e w2 ⟨rfl, hb2⟩
    go_wp2_with fail
    (with_reducible refine (make_range _ _ _ _ H.out).mono ?_); rintro e w3 ⟨rfl, hb3⟩
    have hB := below_next (below_next hb1 hb2) hb3
    have HB := hid hB
    clear hB hb1 hb2 hb3
    go_wp2
    go_ret
    exact ⟨rfl, below_alloc HB.out _⟩

theorem walk (a0 : Int) (a1 : Int) (a2 : Option Addr) (len2 cap2 : Nat) (z2 : List Int) (a3 : Int) (w : World) (w0 : (Lit.int .i64 a0).wf = true) (w1 : (Lit.int .i64 a1).wf = true) (w2 : IsRow .u8 w a2 len2 cap2 z2) (w3 : (Lit.int .u8 a3).wf = true) :
    Calls Try.prog 6 #[.int .i64 a0, .int .i64 a1, .slice a2 len2 cap2, .int .u8 a3] w fun e w' => e = .returned (.bool true) ∧ Below w.heap.size w w' := by
  by_cases h : (1 ≤ a0 ∧ a0 ≤ 1024) ∧ (1 ≤ a1 ∧ a1 ≤ 1024)
  · by_cases hn : (len2 : Int) = a0 * a1
    · exact good a0 a1 a2 len2 cap2 a3 0 w h.1 h.2 (.inl ⟨rfl, by simp [hn]⟩) fun w => check_ok a0 a1 a2 len2 cap2 w h.1 h.2 hn
    · exact good a0 a1 a2 len2 cap2 a3 4 w h.1 h.2 (.inr ⟨rfl, by simp [hn]⟩) fun w => check_form a0 a1 a2 len2 cap2 w h.1 h.2 hn
  · exact bad a0 a1 a2 len2 cap2 a3 w h

set_option maxRecDepth 100000 in
theorem lifted (os : Os) (started : os.Started) (H : Type) (enc : TypeId × Value → H) :
    ReturnsInHanded {} Try.checked os 6 .any (Rows.rasterChecksSpec.pre6 enc Try.prog Try.f6 Rows.rasterChecksRow.domain false) (Rows.rasterChecksSpec.post enc Try.prog Try.f6 false true false false) := by
  refine returnsInHanded_of_change (C := Try.checked) own started (by kernel_rfl) Try.func6
    (ChangeSpec.witness6 (enc := enc) (C := Try.checked) false ⟨#[], #[.int .i64 0, .int .i64 0, .slice none 0 0, .int .u8 0], []⟩ 8 (by kernel_rfl) (by kernel_rfl) (by kernel_rfl) (by kernel_rfl)) ?_
  intro W base args ds gs before hval0 hW hcnd _
  have hval : ∀ (j : Nat) t v, Try.f6.params[j]? = some t → args[j]? = some v → Value.okWide Try.prog W .any base t v := hval0
  have hW' := hW
  obtain ⟨p, q, hA0, hV, rfl, hfz, hnd⟩ := hW
  have hA : DataW.TrodAll enc Try.prog W 0 (fun _ => true) true Try.f6.params.toList args.toList ds p := hA0
  rw [Try.params6] at hA hval
  obtain ⟨v0, vs0, d0, ds0, p0, q0, hargs, rfl, rfl, h0, r0⟩ := trodAll_cons hA
  obtain ⟨v1, vs1, d1, ds1, p1, q1, rfl, rfl, rfl, h1, r1⟩ := trodAll_cons r0
  obtain ⟨v2, vs2, d2, ds2, p2, q2, rfl, rfl, rfl, h2, r2⟩ := trodAll_cons r1
  obtain ⟨v3, vs3, d3, ds3, p3, q3, rfl, rfl, rfl, h3, r3⟩ := trodAll_cons r2
  obtain ⟨rfl, rfl, rfl⟩ := trodAll_nil r3
  obtain rfl : args = #[v0, v1, v2, v3] := by cases args; simp_all
  obtain ⟨rfl, rfl⟩ := trodVars_none hV
  obtain ⟨a0, rfl, rfl, rfl, w0⟩ := open_int Try.underlying3 (hval 0 3 v0 rfl rfl) h0
  obtain ⟨a1, rfl, rfl, rfl, w1⟩ := open_int Try.underlying3 (hval 1 3 v1 rfl rfl) h1
  obtain ⟨a2, len2, cap2, rfl⟩ := okWide_slice Try.underlying22 (hval 2 22 v2 rfl rfl)
  have k2 := h2
  have lt2 : ∀ x ∈ p2, x.block < W.heap.size := by obtain ⟨m, hm⟩ := k2; exact DataW.trod_lt m _ _ _ hm
  obtain ⟨z2, w2⟩ : ∃ zs, IsRow .u8 W a2 len2 cap2 zs := by
    obtain ⟨fuel, hf⟩ := h2
    rcases open_ints Try.underlying22 Try.underlying5 (by kernel_rfl) hf with ⟨hcs, _⟩ | ⟨x, l, c, zs, hcs, _, hl, hm, hz, _, hcell, hwz⟩
    · simp [Value.cells] at hcs
      obtain ⟨rfl, rfl, rfl⟩ := hcs
      exact ⟨[], .inl ⟨rfl, rfl, rfl, rfl⟩⟩
    · simp [Value.cells] at hcs
      obtain ⟨rfl, rfl, rfl⟩ := hcs
      exact ⟨zs, .inr ⟨_, rfl, hl, hm, by simpa using hz, hcell, hwz⟩⟩
  obtain ⟨a3, rfl, rfl, rfl, w3⟩ := open_int Try.underlying5 (hval 3 5 v3 rfl rfl) h3
  clear hA0 hval0
  refine (walk a0 a1 a2 len2 cap2 z2 a3 W w0 w1 w2 w3).mono fun e W' ⟨he, bel⟩ => ?_
  subst he
  exact ⟨_, rfl, _, _, _, [], _, [], hW', trodAll_mk1 (shut_bool Try.underlying4 _), (trodAll_cons_mk (shut_int Try.underlying3 w0) (trodAll_cons_mk (shut_int Try.underlying3 w1) (trodAll_cons_mk (Below.trod laidOut (by kernel_rfl) (of_decide_eq_true (by kernel_rfl)) k2 bel lt2) (trodAll_cons_mk (shut_int Try.underlying5 w3) trodAll_mk0)))), rfl, bel.frame _, fun h => by cases h⟩

theorem over : Rows.rasterChecksRow.holds Try.pinned (OpenSpec.ofChange Rows.rasterChecksSpec) :=
  OpenClaim.holds_of_wide 6 Try.f6 rfl rfl rfl rfl rfl rfl rfl ⟨rfl, rfl, rfl, rfl, rfl⟩ rfl rfl rfl rfl rfl (by kernel_rfl) Try.func6 (by kernel_rfl)
    (of_decide_eq_true (by kernel_rfl)) (by unfold Func.isWrapper; first | (rw [if_pos (by decide +kernel)]; kernel_rfl) | (rw [if_neg (by decide +kernel)]; exact ⟨rfl, rfl⟩))
    (fun os started H enc _ => lifted os started H enc)

/-- ████ THE STATEMENT ████ -/
theorem proved : Rows.RasterChecksSaid := over
end Go.Proofs.Ytdjjijkdalpggaa.rasterChecks
