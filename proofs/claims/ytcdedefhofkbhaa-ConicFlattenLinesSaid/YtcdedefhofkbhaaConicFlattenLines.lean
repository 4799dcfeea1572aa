/- ConicFlattenLines: Flatten has one line for each subpath. -/
import Derived.Test.YtcdedefhofkbhaaRows
import Derived.WalkKit
import Derived.ProofKit
import Derived.OpenShut
import Derived.ChangeOld
import Derived.Below
import Derived.Test.YtcdedefhofkbhaaOpen
import Derived.Test.YtcdedefhofkbhaaSameL
import Derived.Test.YtcdedefhofkbhaaCrvs
import Derived.Test.YtcdedefhofkbhaaRCheck
namespace Go.Proofs.Ytcdedefhofkbhaa.conicFlattenLines
open Go Go.ChangeShapes Go.WideShapes Go.ChangeAt Go.RowKit Go.Deep
set_option linter.unusedVariables false

-- caps
theorem flat_len {ss : List Sg} (h : chk ss = 0) : (flatL ss).length ≤ 1000 ∧ ∀ l ∈ flatL ss, l.ps.length ≤ 1000000 := by
  have key : ∀ k, k ≤ ss.length → (flatL (ss.take k)).length ≤ k ∧ ∀ l ∈ flatL (ss.take k), l.ps.length ≤ 512 * k := by
    intro k
    induction k with
    | zero => intro _; exact ⟨Nat.le_refl _, fun l hl => by simp [flatL] at hl⟩
    | succ k ih =>
      intro hk
      obtain ⟨i1, i2⟩ := ih (by omega)
      obtain ⟨ls, l, e1, e2⟩ := flat_ok h (k + 1) hk (by omega)
      have hkl : k < ss.length := by omega
      by_cases h1 : ss[k].k = 1
      · rw [flatL_take hkl, addL_move _ h1]
        refine ⟨by simp; omega, fun l hl => ?_⟩
        rcases List.mem_append.1 hl with hl | hl
        · have := i2 l hl; omega
        · rw [List.mem_singleton] at hl; subst hl; show 1 ≤ _; omega
      · have hk0 : 0 < k := by
          rcases Nat.eq_zero_or_pos k with e | e
          · subst e; exact absurd (chk_first h (by omega)) h1
          · exact e
        obtain ⟨ls0, l0, f1, f2⟩ := flat_ok h k (by omega) hk0
        rw [flatL_take hkl, f1, addL_last _ _ h1] at e1 ⊢
        rw [f1] at i1 i2
        have e3 : updL l0 ss[k] = l := (List.append_inj_right' e1 rfl) |> fun h => by simpa using h
        refine ⟨by simp at i1 ⊢; omega, fun x hx => ?_⟩
        rcases List.mem_append.1 hx with hx | hx
        · have := i2 x (List.mem_append_left _ hx); omega
        · rw [List.mem_singleton] at hx; subst hx; rw [e3]; exact e2.n
  have hl := chk_le h
  have := key ss.length (Nat.le_refl _)
  rw [List.take_of_length_le (Nat.le_refl _)] at this
  exact ⟨by omega, fun l hx => by have := this.2 l hx; omega⟩
set_option maxHeartbeats 3200000 in
set_option maxRecDepth 100000 in
theorem rest (A : Option Addr) (n c : Nat) (ss : List Sg) (W : World) (hn : n = ss.length) (hs : Segs W A ss) (hm : ss.length ≤ maxLen) (hc : n ≤ c ∧ c ≤ maxLen) :
    Calls Try.prog 8 #[.slice A n c] W fun e w' => e = .returned (.bool true) ∧ Below W.heap.size W w' := by
  have HS := hid hs
  have HN := hid hn
  obtain ⟨hc1, hc2⟩ := hc
  unfold maxLen at hc2 hm
  rw [← hn] at hm
  clear hs hn
  go_enter Try.func8, Try.ntmps8
  go_wp2_with fail
  (with_reducible refine (curves_any _).mono ?_); rintro e w1 ⟨rfl, hb⟩
  have HB := hid hb
  have HS0 := hid (HS.out.next hb)
  clear hb HS
  by_cases hlt : 12 < n
  · have hn1 : 12 = (ss.take 12).length := by rw [List.length_take]; have := HN.out; omega
    have HS1 := hid (HS0.out.take 12)
    clear HS0
    have HN1 := hid hn1
    have HLT := hid hlt
    have hltb : decide ((12 : Int) < (n : Int)) = true := decide_eq_true (by have := HLT.out; omega)
    have hcc : 12 ≤ c := by have := HLT.out; omega
    clear hn1 hlt
    go_upto_region 5 with fail
    clear hltb HLT
    have hn1 := HN1.out
    clear HN1
    have HCK := fun w (h1 : Segs w A (ss.take 12)) => hid (rcheck_any A (ss.take 12) 12 c w hn1 fun _ => h1)
    by_cases h : chk (ss.take 12) = 0
    · have HV := fun w (h1 : Segs w A (ss.take 12)) => hid (flatten_good A (ss.take 12) 12 c w hn1 h1 h)
      have HR := fun w (h1 : Segs w A (ss.take 12)) => hid (rflattened_any A (ss.take 12) 12 c w hn1 h1 h)
      have HLL := hid (flat_len h)
      rw [h] at HCK
      clear h hn1
      go_wp2_with fail
      (with_reducible refine (HV _ HS1.out).out.mono ?_); rintro e w2 ⟨v2, es2, rfl, ho2, he2, hb⟩
      have HB2 := hid (below_next HB.out hb)
      have HS2 := hid (HS1.out.next hb)
      have HL2 := hid ho2.lines
      have HE2 := hid he2
      clear hb ho2 he2 HB HS1 HV
      go_wp2_with fail
      (with_reducible refine (HCK _ HS2.out).out.mono ?_); rintro e w3 ⟨rfl, hb⟩
      have HB3 := hid (below_next HB2.out hb)
      have HS3 := hid (HS2.out.next hb)
      have HL3 := hid (HL2.out.next hb)
      clear hb HB2 HS2 HL2 HCK
      go_wp2_with fail
      (with_reducible refine (HR _ HS3.out).out.mono ?_); rintro e w4 ⟨v4, es4, rfl, ho4, he4, hb⟩
      have HB4 := hid (below_next HB3.out hb)
      have HL4 := hid (HL3.out.next hb)
      have HL5 := hid ho4.lines
      have HE4 := hid he4
      clear hb ho4 he4 HB3 HS3 HL3 HR
      go_wp2_with fail
      (with_reducible refine (samel_yes v2 v4 es2 es4 _ (HE2.out.trans HE4.out.symm) (by have := congrArg List.length HE2.out; have := HLL.out.1; simp at *; omega) (fun e he => HLL.out.2 e.2 (by rw [← HE2.out]; exact List.mem_map.2 ⟨e, he, rfl⟩)) HL4.out HL5.out).mono ?_); rintro e w5 ⟨rfl, hb⟩
      have HB5 := hid (below_next HB4.out hb)
      clear hb HB4 HL4 HL5 HE2 HE4 HLL
      go_wp2_with fail
      go_ret
      exact ⟨rfl, HB5.out⟩
    · have HV := fun w (h1 : Segs w A (ss.take 12)) => hid (flatten_bad A (ss.take 12) 12 c w hn1 (fun _ => h1) h)
      have hne : (chk (ss.take 12) != 0) = true := by simp [h]
      clear h hn1
      generalize chk (ss.take 12) = r at HV HCK hne
      go_wp2_with fail
      (with_reducible refine (HV _ HS1.out).out.mono ?_); rintro e w2 ⟨v2, es2, rfl, ho2, he2, hb⟩
      have HB2 := hid (below_next HB.out hb)
      have HS2 := hid (HS1.out.next hb)
      have hes : es2 = [] := by cases es2; rfl; simp at he2
      subst hes
      have hv : v2 = .slice none 0 0 ∨ ∃ g c, v2 = .slice (some ⟨g, 0, none⟩) 0 c := by
        rcases ho2.r.2 with ⟨h0, _⟩ | ⟨g, cap, cur, h0, _⟩
        · exact .inl h0
        · exact .inr ⟨g, cap, h0⟩
      clear hb ho2 he2 HB HS1 HV
      rcases hv with rfl | ⟨g, cg, rfl⟩
      all_goals
        go_wp2_with fail
        (with_reducible refine (HCK _ HS2.out).out.mono ?_); rintro e w3 ⟨rfl, hb⟩
        have HB3 := hid (below_next HB2.out hb)
        clear hb HB2 HS2 HCK
        go_wp2_with fail
        go_ret
        exact ⟨rfl, HB3.out⟩
  · have hn1 : n = ss.length := HN.out
    have HS1 := HS0
    clear HS0
    have HN1 := hid hn1
    have HLT := hid hlt
    have hltb : decide ((12 : Int) < (n : Int)) = false := decide_eq_false (by have := HLT.out; omega)
    clear hn1 hlt
    go_upto_region 5 with fail
    clear hltb HLT
    have hn1 := HN1.out
    clear HN1
    have HCK := fun w (h1 : Segs w A ss) => hid (rcheck_any A ss n c w hn1 fun _ => h1)
    by_cases h : chk ss = 0
    · have HV := fun w (h1 : Segs w A ss) => hid (flatten_good A ss n c w hn1 h1 h)
      have HR := fun w (h1 : Segs w A ss) => hid (rflattened_any A ss n c w hn1 h1 h)
      have HLL := hid (flat_len h)
      rw [h] at HCK
      clear h hn1
      go_wp2_with fail
      (with_reducible refine (HV _ HS1.out).out.mono ?_); rintro e w2 ⟨v2, es2, rfl, ho2, he2, hb⟩
      have HB2 := hid (below_next HB.out hb)
      have HS2 := hid (HS1.out.next hb)
      have HL2 := hid ho2.lines
      have HE2 := hid he2
      clear hb ho2 he2 HB HS1 HV
      go_wp2_with fail
      (with_reducible refine (HCK _ HS2.out).out.mono ?_); rintro e w3 ⟨rfl, hb⟩
      have HB3 := hid (below_next HB2.out hb)
      have HS3 := hid (HS2.out.next hb)
      have HL3 := hid (HL2.out.next hb)
      clear hb HB2 HS2 HL2 HCK
      go_wp2_with fail
      (with_reducible refine (HR _ HS3.out).out.mono ?_); rintro e w4 ⟨v4, es4, rfl, ho4, he4, hb⟩
      have HB4 := hid (below_next HB3.out hb)
      have HL4 := hid (HL3.out.next hb)
      have HL5 := hid ho4.lines
      have HE4 := hid he4
      clear hb ho4 he4 HB3 HS3 HL3 HR
      go_wp2_with fail
      (with_reducible refine (samel_yes v2 v4 es2 es4 _ (HE2.out.trans HE4.out.symm) (by have := congrArg List.length HE2.out; have := HLL.out.1; simp at *; omega) (fun e he => HLL.out.2 e.2 (by rw [← HE2.out]; exact List.mem_map.2 ⟨e, he, rfl⟩)) HL4.out HL5.out).mono ?_); rintro e w5 ⟨rfl, hb⟩
      have HB5 := hid (below_next HB4.out hb)
      clear hb HB4 HL4 HL5 HE2 HE4 HLL
      go_wp2_with fail
      go_ret
      exact ⟨rfl, HB5.out⟩
    · have HV := fun w (h1 : Segs w A ss) => hid (flatten_bad A ss n c w hn1 (fun _ => h1) h)
      have hne : (chk ss != 0) = true := by simp [h]
      clear h hn1
      generalize chk ss = r at HV HCK hne
      go_wp2_with fail
      (with_reducible refine (HV _ HS1.out).out.mono ?_); rintro e w2 ⟨v2, es2, rfl, ho2, he2, hb⟩
      have HB2 := hid (below_next HB.out hb)
      have HS2 := hid (HS1.out.next hb)
      have hes : es2 = [] := by cases es2; rfl; simp at he2
      subst hes
      have hv : v2 = .slice none 0 0 ∨ ∃ g c, v2 = .slice (some ⟨g, 0, none⟩) 0 c := by
        rcases ho2.r.2 with ⟨h0, _⟩ | ⟨g, cap, cur, h0, _⟩
        · exact .inl h0
        · exact .inr ⟨g, cap, h0⟩
      clear hb ho2 he2 HB HS1 HV
      rcases hv with rfl | ⟨g, cg, rfl⟩
      all_goals
        go_wp2_with fail
        (with_reducible refine (HCK _ HS2.out).out.mono ?_); rintro e w3 ⟨rfl, hb⟩
        have HB3 := hid (below_next HB2.out hb)
        clear hb HB2 HS2 HCK
        go_wp2_with fail
        go_ret
        exact ⟨rfl, HB3.out⟩

set_option maxRecDepth 100000 in
theorem lifted (os : Os) (started : os.Started) (H : Type) (enc : TypeId × Value → H) :
    ReturnsInHanded {} Try.checked os 8 .any (Rows.conicFlattenLinesSpec.pre6 enc Try.prog Try.f8 Rows.conicFlattenLinesRow.domain false) (Rows.conicFlattenLinesSpec.post enc Try.prog Try.f8 false true false false) := by
  refine returnsInHanded_of_change (C := Try.checked) own started (by kernel_rfl) Try.func8
    (ChangeSpec.witness6 (enc := enc) (C := Try.checked) false ⟨#[], #[.slice none 0 0], []⟩ 8 (by kernel_rfl) (by kernel_rfl) (by kernel_rfl) (by kernel_rfl)) ?_
  intro W base args ds gs before hval0 hW hcnd _
  have hval : ∀ (j : Nat) t v, Try.f8.params[j]? = some t → args[j]? = some v → Value.okWide Try.prog W .any base t v := hval0
  have hW' := hW
  obtain ⟨p, q, hA0, hV, rfl, hfz, hnd⟩ := hW
  have hA : DataW.TrodAll enc Try.prog W 0 (fun _ => true) true Try.f8.params.toList args.toList ds p := hA0
  rw [Try.params8] at hA hval
  obtain ⟨v0, vs0, d0, ds0, p0, q0, hargs, rfl, rfl, h0, r0⟩ := trodAll_cons hA
  obtain ⟨rfl, rfl, rfl⟩ := trodAll_nil r0
  obtain rfl : args = #[v0] := by cases args; simp_all
  obtain ⟨rfl, rfl⟩ := trodVars_none hV
  have k0 := h0
  have lt0 : ∀ x ∈ p0, x.block < W.heap.size := by obtain ⟨m, hm⟩ := k0; exact DataW.trod_lt m _ _ _ hm
  obtain ⟨A0, n0, c0, ss0, rfl, hn0, hs0, hm0⟩ := open_segs Try.underlying35 Try.underlying25 (by kernel_rfl) (by kernel_rfl) (by kernel_rfl) (hval 0 35 v0 rfl rfl) h0
  have hc0 := open_cap Try.underlying35 h0
  clear hA0 hval0
  refine (rest A0 n0 c0 ss0 W hn0 hs0 hm0 hc0).mono fun e W' ⟨he, bel⟩ => ?_
  subst he
  exact ⟨_, rfl, _, _, _, [], _, [], hW', trodAll_mk1 (shut_bool Try.underlying4 _), (trodAll_cons_mk (Below.trod laidOut (by kernel_rfl) (of_decide_eq_true (by kernel_rfl)) k0 bel lt0) trodAll_mk0), rfl, bel.frame _, fun h => by cases h⟩

theorem over : Rows.conicFlattenLinesRow.holds Try.pinned (OpenSpec.ofChange Rows.conicFlattenLinesSpec) :=
  OpenClaim.holds_of_wide 8 Try.f8 rfl rfl rfl rfl rfl rfl rfl ⟨rfl, rfl, rfl, rfl, rfl⟩ rfl rfl rfl rfl rfl (by kernel_rfl) Try.func8 (by kernel_rfl)
    (of_decide_eq_true (by kernel_rfl)) (by unfold Func.isWrapper; first | (rw [if_pos (by decide +kernel)]; kernel_rfl) | (rw [if_neg (by decide +kernel)]; exact ⟨rfl, rfl⟩))
    (fun os started H enc _ => lifted os started H enc)

/-- The statement. -/
theorem proved : Rows.ConicFlattenLinesSaid := over
end Go.Proofs.Ytcdedefhofkbhaa.conicFlattenLines
