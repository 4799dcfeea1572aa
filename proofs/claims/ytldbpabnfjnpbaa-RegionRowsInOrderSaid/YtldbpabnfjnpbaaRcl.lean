/- rowEnd of package region, and slices.Clone of a row of runs. -/
import Derived.Test.YtldbpabnfjnpbaaRend
import Derived.Test.YtldbpabnfjnpbaaCmbB
namespace Go.Proofs.Ytldbpabnfjnpbaa
open Go Go.RowKit
set_option linter.unusedVariables false
set_option linter.unusedSimpArgs false

set_option maxHeartbeats 1000000 in
set_option maxRecDepth 100000 in
theorem cloneR_any (A : Option Addr) (ss : List Rn) (n c : Nat) (w : World) (hn : n = ss.length) (hl : n ≤ 5000000000) (hs : Runs w A ss) :
    Calls Try.prog 60 #[.slice A n c] w fun e w' => ∃ v, e = .returned v ∧ OwnR w' w.heap.size v ss ∧ Below w.heap.size w w' := by
  by_cases hA : A.isNone = true
  · obtain rfl : ss = [] := by
      cases ss with
      | nil => rfl
      | cons y r => obtain ⟨a, h, -⟩ := hs (by simp); rw [h] at hA; cases hA
    clear hs hn
    have hq : ∀ w : World, (binOp .eql 22 (.slice A n c) (.slice none 0 0)).run Try.prog w = .ok (.bool true) w := fun w => by rw [Lib.run_eql_slice_nil w _ _ A n c 0 0 Try.underlying22, hA]
    go_enter Try.func60, Try.ntmps60
    go_wp2_with fail
    go_ret
    exact ⟨_, rfl, OwnR.nil _ _, Below.refl _ _⟩
  · obtain ⟨a, rfl⟩ : ∃ a, A = some a := by
      cases A with
      | none => exact absurd rfl hA
      | some a => exact ⟨a, rfl⟩
    clear hA
    have HN := hid hn
    have HS := hid hs
    clear hn hs
    have hq : ∀ w : World, (binOp .eql 22 (.slice (some a) n c) (.slice none 0 0)).run Try.prog w = .ok (.bool false) w := fun w => Lib.run_eql_slice_nil w _ _ (some a) n c 0 0 Try.underlying22
    go_enter Try.func60, Try.ntmps60
    go_upto_region 3 with fail
    rename_i Kn hKn
    refine wp_region_lit ?_
    refine sq_start (n := 8) rfl fun a0 hs0 => ?_
    have ha0 := (((hs0.pin 0 (v := .slice (some a) n c) rfl).pin 2 (v := .slice none 0 0) rfl).pin 4 (v := .bool false) rfl)
    clear hs0
    generalize (fun i => Array.getD _ i undef) = g0 at ha0
    refine sq_val (v := .slice (some ⟨w.heap.size, 0, none⟩) 0 0) ha0 rfl (run_lit0) fun a1 ha1 => ?_
    refine sq_val (v := .slice (some a) n c) ha1 rfl (rfl) fun a2 ha2 => ?_
    obtain ⟨v', w3, h1, h2, h3⟩ := append_runs (B := w.heap.size) (m := n) (c := c) (by simp) (OwnR.lit0 w) HN.out (HS.out.next (below_alloc (Below.refl _ w) _)) (by simpa using hl)
    refine sq_val (v := v') ha2 rfl (run_append rfl rfl (h1 _)) fun a3 ha3 => ?_
    refine sq_val (v := v') ha3 rfl (rfl) fun a4 ha4 => ?_
    refine wpList_nil ?_
    refine hKn _ _ ?_
    obtain ⟨g9, hg9, k0, k2, k4⟩ : ∃ g9, Is a4 8 g9 ∧ g9 0 = .slice (some a) n c ∧ g9 2 = v' ∧ g9 4 = .bool false := ⟨_, ha4, rfl, rfl, rfl⟩
    have hw := hg9.whole
    rw [show ((List.range 8).map g9).toArray = #[g9 0, g9 1, g9 2, g9 3, g9 4, g9 5, g9 6, g9 7] from rfl] at hw
    rw [k0, k2, k4] at hw
    subst hw
    clear hg9 k0 k2 k4
    have HO3 := hid (show OwnR w3 w.heap.size v' ss by simpa using h2)
    have HB3 := hid (show Below w.heap.size w w3 from (Gr.of_below (v := .slice (some ⟨w.heap.size, 0, none⟩) 0 0) (below_alloc (Below.refl _ w) _)).trans h3 |>.below (Nat.le_refl _) (fun k e => by simp [Value.ownBlock] at e; omega))
    clear h1 h2 h3
    clear ha0 ha1 ha2 ha3 ha4 hKn Kn
    go_wp2_with fail
    go_ret
    exact ⟨v', rfl, HO3.out, HB3.out⟩


theorem Runs.dropR {W : World} {a : Addr} {ss : List Rn} (h : Runs W (some a) ss) (b : Nat) : Runs W (some (a.add (b * 3))) (ss.drop b) := fun hn => by
  obtain ⟨a', e, h1, h2⟩ := h (fun e => hn (by rw [e]; simp))
  cases e
  refine ⟨_, rfl, by rw [add_block]; exact h1, fun i s hi => ?_⟩
  rw [List.getElem?_drop] at hi
  have := h2 (b + i) s hi
  rw [add_add', ← Nat.add_mul]
  exact this

set_option maxHeartbeats 1000000 in
theorem rowEnd_any (a : Addr) (ss : List Rn) (n c b : Nat) (q : Rn) (w : World) (hn : n = ss.length) (hnc : n ≤ c) (hc : c ≤ maxLen) (hs : Runs w (some a) ss) (hbn : b < n) (hq : ss[b]? = some q) :
    Calls Try.prog 59 #[.slice (some a) n c, .int .i64 b] w fun e w' => e = .returned (.int .i64 (b + (rowOf q.y (ss.drop b)).length : Nat)) ∧ Below w.heap.size w w' := by
  have hbl : b < ss.length := by omega
  have hle : (rowOf q.y (ss.drop b)).length ≤ n - b := by
    unfold rowOf
    have := (List.takeWhile_sublist (fun r : Rn => decide (r.y = q.y)) (l := ss.drop b)).length_le
    rw [List.length_drop] at this
    omega
  have hat := hs.at_ hbl
  obtain ⟨a', e, hal, hra⟩ := hat
  cases e
  have hqq : ss[b] = q := by rw [List.getElem?_eq_getElem hbl] at hq; exact Option.some.inj hq
  rw [hqq] at hra
  have HRA := hid hra
  have HD := hid (hs.dropR b)
  have HN := hid hn
  have HLE := hid hle
  clear hle hs hra hqq hq
  obtain ⟨W2, hW2⟩ : ∃ W2, W2 = (w.alloc (.cells #[.slice (some a) n c] 22)).alloc (.cells #[.int .i64 b] 3) := ⟨_, rfl⟩
  have HV0 := hid (show Var W2 w.heap.size #[.slice (some a) n c] 22 by rw [hW2]; exact (Var.new _ _ _ _ rfl).alloc _)
  have HV1 := hid (show Var W2 (w.heap.size + 1) #[.int .i64 b] 3 by rw [hW2]; exact Var.new _ _ _ _ (by simp))
  have HB0 := hid (show Below w.heap.size w W2 by rw [hW2]; exact below_alloc (below_alloc (Below.refl _ w) _) _)
  have c1 := (HV0.out.cell 0).trans rfl
  have c2 := (HV1.out.cell 0).trans rfl
  have hb0 : (0 : Int) ≤ (b : Int) := Int.natCast_nonneg _
  have hbi : (b : Int) ≤ (n : Int) := by omega
  have hm : n ≤ maxLen := by omega
  unfold maxLen at hm
  clear hn
  have HCALL := hid (idxR_any (some (a.add (b * 3))) (ss.drop b) (n - b) (c - b) w.heap.size (w.heap.size + 1) n c b a q W2 (by have := HN.out; rw [List.length_drop]; omega) (by unfold maxLen; omega) (HD.out.next HB0.out) c1 c2 (HRA.out.below HB0.out (by rw [add_block]; exact hal)) hbn HV0.out.lt HV1.out.lt (Nat.lt_of_lt_of_le hal HB0.out.size))
  go_enter Try.func59, Try.ntmps59
  go_upto_region 1 with fail
  rw [← hW2]
  clear hW2
  go_wp2_with fail
  (with_reducible refine (HCALL.out).mono ?_); rintro e w2 ⟨rfl, hb⟩
  have HB2 := hid (below_next HB0.out hb)
  have d1 := ((HV0.out.next hb).cell 0).trans rfl
  have d2 := ((HV1.out.next hb).cell 0).trans rfl
  clear hb HCALL c1 c2
  rcases Nat.lt_or_ge (rowOf q.y (ss.drop b)).length (n - b) with hlt | hge
  · rw [idxV_lt hlt]
    obtain ⟨m, hm2⟩ : ∃ m, m = (rowOf q.y (ss.drop b)).length := ⟨_, rfl⟩
    rw [← hm2] at hlt ⊢
    have hm0 : ¬ ((m : Int) < 0) := by omega
    have HM2 := hid hm2
    clear hm2
    go_wp2_with fail
    go_ret
    exact ⟨by rw [← HM2.out, Int.natCast_add]; rfl, HB2.out⟩
  · have he : (rowOf q.y (ss.drop b)).length = n - b := Nat.le_antisymm HLE.out hge
    rw [he, idxV_all]
    go_wp2_with fail
    go_ret
    exact ⟨by rw [show b + (rowOf q.y (ss.drop b)).length = n by omega]; rfl, HB2.out⟩

end Go.Proofs.Ytldbpabnfjnpbaa
