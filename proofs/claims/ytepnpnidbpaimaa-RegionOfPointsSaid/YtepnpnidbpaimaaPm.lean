/- The reference's test of a cell's numbers. -/
import Derived.Test.YtepnpnidbpaimaaOfP
import Derived.Test.YtepnpnidbpaimaaRChk
import Derived.Test.YtepnpnidbpaimaaCmbD
import Derived.Test.YtepnpnidbpaimaaOf
namespace Go.Proofs.Ytepnpnidbpaimaa
open Go Go.RowKit
set_option linter.unusedVariables false

theorem permd_t (x y : Int) (w : World) (h : PIn ⟨x, y⟩) : Calls Try.prog 38 #[.int .i64 x, .int .i64 y] w fun e w' => e = .returned (.bool true) ∧ w = w' := by
  obtain ⟨h1, h2⟩ := h
  have h1 : -8192 ≤ x ∧ x ≤ 8191 := h1
  have h2 : -8192 ≤ y ∧ y ≤ 8191 := h2
  go_enter Try.func38, Try.ntmps38
  go_wp2_with (go_at_call 40; (with_reducible refine (in_t _ _ _ _ (by assumption)).mono ?_); rintro e w' ⟨rfl, rfl⟩)
  go_ret
  exact ⟨rfl, rfl⟩
theorem permd_f (x y : Int) (w : World) (h : ¬ PIn ⟨x, y⟩) : Calls Try.prog 38 #[.int .i64 x, .int .i64 y] w fun e w' => e = .returned (.bool false) ∧ w = w' := by
  by_cases h1 : -8192 ≤ x ∧ x ≤ 8191
  · have h2 : ¬ (-8192 ≤ y ∧ y ≤ 8191) := fun k => h ⟨h1, k⟩
    go_enter Try.func38, Try.ntmps38
    go_wp2_with (go_at_call 40; (first | (with_reducible refine (in_t _ _ _ _ (by assumption)).mono ?_) | (with_reducible refine (in_f _ _ _ _ (by assumption)).mono ?_)); rintro e w' ⟨rfl, rfl⟩)
    go_ret
    exact ⟨rfl, rfl⟩
  · go_enter Try.func38, Try.ntmps38
    go_wp2_with (go_at_call 40; (with_reducible refine (in_f _ _ _ _ (by assumption)).mono ?_); rintro e w' ⟨rfl, rfl⟩)
    go_ret
    exact ⟨rfl, rfl⟩
/-- One more listed cell, joined to the region. -/
theorem made_join {ps : List P2} {rs res : List Rn} {p : P2} (h : Made ps rs) (k : IsOp (fun a b => a || b) rs [one p] res) : Made (ps ++ [p]) res :=
  ⟨k.v, fun x y => by rw [k.h, h.has, has_cons, has_one]; simp [has]⟩
theorem made_ex (qs : List P2) (ho : List.Pairwise (fun p q => ltP q p = false) qs) (hp : ∀ p ∈ qs, PIn p) : ∀ k, k ≤ qs.length → ∃ rs, MadeL (qs.take k) rs
  | 0, _ => ⟨[], Made.nil⟩
  | k + 1, h => by
    obtain ⟨rs, hr⟩ := made_ex qs ho hp k (by omega)
    refine ⟨addC rs qs[k], ?_⟩
    rw [List.take_succ_eq_append_getElem h]
    refine hr.step (hp _ (List.getElem_mem h)) fun q hq => ?_
    obtain ⟨i, hi, hiq⟩ : ∃ i, ∃ h : i < qs.length, i < k ∧ qs[i] = q := by
      have hm := List.mem_of_getLast? hq
      obtain ⟨i, hi, e⟩ := List.getElem_of_mem hm
      rw [List.length_take] at hi
      exact ⟨i, by omega, by omega, by rw [← e]; simp⟩
    exact hiq.2 ▸ List.pairwise_iff_getElem.1 ho i k hi h hiq.1
/-- No more runs than cells. -/
theorem made_len {ps : List P2} {rs : List Rn} (h : Made ps rs) (hp : ∀ p ∈ ps, PIn p) : rs.length ≤ ps.length := by
  have hperm := List.mergeSort_perm ps (fun p q => !ltP q p)
  have hs : List.Pairwise (fun p q => (!ltP q p) = true) (ps.mergeSort (fun p q => !ltP q p)) := List.pairwise_mergeSort (le := fun p q => !ltP q p) (fun a b c h1 h2 => by
    unfold ltP at *; simp only [Bool.not_eq_true', decide_eq_false_iff_not] at *; omega) (fun a b => by
    unfold ltP; simp only [Bool.or_eq_true, Bool.not_eq_true', decide_eq_false_iff_not]; omega) ps
  obtain ⟨ss, hss⟩ := made_ex (ps.mergeSort (fun p q => !ltP q p)) (hs.imp fun h => by simpa using h) (fun p hq => hp p (hperm.mem_iff.1 hq)) _ (Nat.le_refl _)
  rw [List.take_length] at hss
  rw [made_uniq h (made_iff hss.toMade fun p => hperm.mem_iff), ← hperm.length_eq]
  exact hss.len
theorem permd_quiet {x y : Int} {w : World} {k : Nat} {r : Bool} (h : r = decide (PIn ⟨x, y⟩)) :
    Calls Try.prog 38 #[.int .i64 x, .int .i64 y] (w.drewN k) fun e w'' => e = .returned (.bool r) ∧ ∃ m, w'' = w.drewN m := by
  refine Calls.quiet_of_same ?_
  by_cases hp : PIn ⟨x, y⟩
  · rw [h, decide_eq_true hp]; exact (permd_t x y _ hp).mono fun e w' h => ⟨h.1, h.2.symm⟩
  · rw [h, decide_eq_false hp]; exact (permd_f x y _ hp).mono fun e w' h => ⟨h.1, h.2.symm⟩
/-- Combined with one cell. -/
theorem comb_one (v : Value) (rs : List Rn) (p : P2) (B : Nat) (W : World) (b : Nat) (ho : OwnR W B v rs) (hB : B ≤ W.heap.size) (hv : chk rs = 0) (hl : rs.length ≤ 20000) (hp : PIn p) (hb : b = W.heap.size) :
    Calls Try.prog 37 #[v, .slice (some ⟨b, 0, none⟩) 1 1, .int .i64 0] (W.alloc (.cells #[.int .i64 p.y, .int .i64 p.x, .int .i64 (p.x + 1)] 30)).drew fun e w' =>
      ∃ v' res, e = .returned v' ∧ OwnR w' B v' res ∧ IsOp (fun a b => a || b) rs [one p] res ∧ Below W.heap.size W w' := by
  obtain ⟨A, c, rfl, hr⟩ := ho.is
  have hV := (Var.new W (cel (one p)) 30 b hb).drew
  have hbl := below_drewN ((Below.refl W.heap.size W).alloc (Nat.le_refl _) (.cells (cel (one p)) 30)) 1
  have hc : chk [one p] = 0 := chkAll_cons.2 ⟨one_ok hp, trivial, rfl⟩
  refine (combined_any 0 A _ rs [one p] _ c 1 1 _ rfl rfl hl (by decide) (hr.next hbl) (runs1 hV) hv hc).mono ?_
  rintro e w' ⟨v', res, rfl, ho2, hop, hb2⟩
  refine ⟨v', res, rfl, ho2.mono (Nat.le_trans hB hbl.size), ?_, hbl.trans (hb2.mono hbl.size)⟩
  exact ⟨hop.v, fun x y => hop.h x y⟩

end Go.Proofs.Ytepnpnidbpaimaa
