/- The reference's joined. -/
import Derived.Test.YtijkoaggcmgjiaaPut
import Derived.Test.YtijkoaggcmgjiaaOps
namespace Go.Proofs.Ytijkoaggcmgjiaa
open Go Go.RowKit
set_option linter.unusedVariables false
set_option linter.unusedSimpArgs false

/-- Cells of a row put behind a region. -/
def joinR (xs : List Rn) (y x0 x1 : Int) : List Rn := match xs.getLast? with
  | none => xs ++ [⟨y, x0, x1⟩]
  | some l => if l.y = y ∧ l.b = x0 then setEnd xs x1 else xs ++ [⟨y, x0, x1⟩]
def JoinRes (B : Nat) (v : Value) (rs : List Rn) (w : World) (e : Ending) (w' : World) : Prop := ∃ v', e = .returned v' ∧ OwnR w' B v' rs ∧ Gr v v' w w'
set_option maxHeartbeats 4000000 in
set_option maxRecDepth 100000 in
theorem joined_any (v : Value) (xs : List Rn) (y x0 x1 : Int) (B : Nat) (w : World) (hB : B ≤ w.heap.size) (ho : OwnR w B v xs) (hl : xs.length ≤ 5000000000) :
    Calls Try.prog 94 #[v, .int .i64 y, .int .i64 x0, .int .i64 x1] w (JoinRes B v (joinR xs y x0 x1) w) := by
  have HO := hid ho
  rcases List.eq_nil_or_concat xs with hx | ⟨zs, l, hx⟩
  · subst hx
    have HJ := hid (show joinR [] y x0 x1 = [⟨y, x0, x1⟩] from rfl)
    obtain ⟨A, c, hv, -⟩ := ho.is
    have hv' : v = .slice A 0 c := hv
    subst hv'
    clear ho hv
    go_enter Try.func94, Try.ntmps94
    obtain ⟨v', w3, h1, h2, h3⟩ := append_rn (ty := 25) (s := ⟨y, x0, x1⟩) hB HO.out hl
    go_upto_region 5 with fail
    rename_i Kn hKn
    refine wp_region_lit ?_
    refine sq_start (n := 46) rfl fun a0 hs0 => ?_
    have ha0 := (((((hs0.pin 0 (v := .slice A 0 c) rfl).pin 1 (v := .int .i64 y) rfl).pin 2 (v := .int .i64 x0) rfl).pin 3 (v := .int .i64 x1) rfl).pin 4 (v := undef) rfl)
    clear hs0
    generalize (fun i => Array.getD _ i undef) = g0 at ha0
    refine sq_val (v := .slice A 0 c) ha0 rfl (rfl) fun a1 ha1 => ?_
    refine sq_val (v := .int .i64 y) ha1 rfl (rfl) fun a2 ha2 => ?_
    refine sq_val (v := .int .i64 x0) ha2 rfl (rfl) fun a3 ha3 => ?_
    refine sq_val (v := .int .i64 x1) ha3 rfl (rfl) fun a4 ha4 => ?_
    refine sq_val (v := rn (⟨y, x0, x1⟩)) ha4 rfl (run_buildRn rfl rfl rfl) fun a5 ha5 => ?_
    refine sq_val (v := .slice (some ⟨w.heap.size, 0, none⟩) 1 1) ha5 rfl (run_litRn rfl) fun a6 ha6 => ?_
    refine sq_val (v := v') ha6 rfl (run_append rfl rfl h1) fun a7 ha7 => ?_
    refine sq_val (v := v') ha7 rfl (rfl) fun a8 ha8 => ?_
    refine wpList_nil ?_
    refine hKn _ _ ?_
    obtain ⟨g9, hg9, k0, k1, k2, k3, k8⟩ : ∃ g9, Is a8 46 g9 ∧ g9 0 = .slice A 0 c ∧ g9 1 = .int .i64 y ∧ g9 2 = .int .i64 x0 ∧ g9 3 = .int .i64 x1 ∧ g9 8 = v' := ⟨_, ha8, rfl, rfl, rfl, rfl, rfl⟩
    have hw := hg9.whole
    rw [show ((List.range 46).map g9).toArray = #[g9 0, g9 1, g9 2, g9 3, g9 4, g9 5, g9 6, g9 7, g9 8, g9 9, g9 10, g9 11, g9 12, g9 13, g9 14, g9 15, g9 16, g9 17, g9 18, g9 19, g9 20, g9 21, g9 22, g9 23, g9 24, g9 25, g9 26, g9 27, g9 28, g9 29, g9 30, g9 31, g9 32, g9 33, g9 34, g9 35, g9 36, g9 37, g9 38, g9 39, g9 40, g9 41, g9 42, g9 43, g9 44, g9 45] from rfl] at hw
    rw [k0, k1, k2, k3, k8] at hw
    subst hw
    clear hg9 k0 k1 k2 k3 k8
    clear ha0 ha1 ha2 ha3 ha4 ha5 ha6 ha7 ha8 hKn Kn
    have HO3 := hid h2
    have HG3 := hid h3
    clear h1 h2 h3
    go_wp2_with fail
    go_ret
    exact ⟨v', rfl, by rw [HJ.out]; exact HO3.out, HG3.out⟩
  · rw [List.concat_eq_append] at hx
    have hne : xs ≠ [] := by rw [hx]; simp
    have hpos : 1 ≤ xs.length := List.length_pos_iff.2 hne
    have hpos0 : (0 : Int) ≤ (xs.length : Int) - 1 := by omega
    have HJ := hid (show joinR xs y x0 x1 = if l.y = y ∧ l.b = x0 then setEnd xs x1 else xs ++ [⟨y, x0, x1⟩] by unfold joinR; rw [hx]; simp)
    obtain ⟨g, c, hv, hg1, hg2, hg3⟩ := ho.one hne
    have hat : RnAt w ((⟨g, 0, none⟩ : Addr).add ((xs.length - 1) * 3)) l := by
      obtain ⟨A, c', hv2, hr⟩ := ho.is
      rw [hv] at hv2
      cases hv2
      obtain ⟨a, ha, -, hc⟩ := hr hne
      cases ha
      exact hc _ l (by rw [hx]; simp)
    obtain ⟨c0, -, c2⟩ := hat
    rw [addr0] at c0
    rw [addr0] at c2
    simp only at c2
    have k1 := World.ownsRow.frozenAt (by rw [hv] at ho; exact ho) ((xs.length - 1) * 3 + 2)
    have HX := hid hx
    have HNE := hid hne
    subst hv
    clear hx hne ho
    by_cases e1 : l.y = y
    · by_cases e2 : l.b = x0
      · have HJ1 := hid (HJ.out.trans (if_pos ⟨e1, e2⟩))
        rw [e1] at c0
        rw [e2] at c2
        clear HJ e1 e2
        go_enter Try.func94, Try.ntmps94
        go_wp2_with fail
        go_ret
        exact ⟨_, rfl, by rw [HJ1.out]; exact HO.out.setEnd HNE.out _, Gr.set⟩
      · have HJ1 := hid (HJ.out.trans (if_neg (fun k => e2 k.2)))
        have e2' : (l.b == x0) = false := by simpa using e2
        rw [e1] at c0
        clear HJ e1 e2
        go_enter Try.func94, Try.ntmps94
        obtain ⟨v', w3, h1, h2, h3⟩ := append_rn (ty := 25) (s := ⟨y, x0, x1⟩) hB HO.out hl
        go_upto_region 5 with fail
        rename_i Kn hKn
        refine wp_region_lit ?_
        refine sq_start (n := 46) rfl fun a0 hs0 => ?_
        have ha0 := (((((hs0.pin 0 (v := .slice (some ⟨g, 0, none⟩) xs.length c) rfl).pin 1 (v := .int .i64 y) rfl).pin 2 (v := .int .i64 x0) rfl).pin 3 (v := .int .i64 x1) rfl).pin 4 (v := undef) rfl)
        clear hs0
        generalize (fun i => Array.getD _ i undef) = g0 at ha0
        refine sq_val (v := .slice (some ⟨g, 0, none⟩) xs.length c) ha0 rfl (rfl) fun a1 ha1 => ?_
        refine sq_val (v := .int .i64 y) ha1 rfl (rfl) fun a2 ha2 => ?_
        refine sq_val (v := .int .i64 x0) ha2 rfl (rfl) fun a3 ha3 => ?_
        refine sq_val (v := .int .i64 x1) ha3 rfl (rfl) fun a4 ha4 => ?_
        refine sq_val (v := rn (⟨y, x0, x1⟩)) ha4 rfl (run_buildRn rfl rfl rfl) fun a5 ha5 => ?_
        refine sq_val (v := .slice (some ⟨w.heap.size, 0, none⟩) 1 1) ha5 rfl (run_litRn rfl) fun a6 ha6 => ?_
        refine sq_val (v := v') ha6 rfl (run_append rfl rfl h1) fun a7 ha7 => ?_
        refine sq_val (v := v') ha7 rfl (rfl) fun a8 ha8 => ?_
        refine wpList_nil ?_
        refine hKn _ _ ?_
        obtain ⟨g9, hg9, k0, k1, k2, k3, k8⟩ : ∃ g9, Is a8 46 g9 ∧ g9 0 = .slice (some ⟨g, 0, none⟩) xs.length c ∧ g9 1 = .int .i64 y ∧ g9 2 = .int .i64 x0 ∧ g9 3 = .int .i64 x1 ∧ g9 8 = v' := ⟨_, ha8, rfl, rfl, rfl, rfl, rfl⟩
        have hw := hg9.whole
        rw [show ((List.range 46).map g9).toArray = #[g9 0, g9 1, g9 2, g9 3, g9 4, g9 5, g9 6, g9 7, g9 8, g9 9, g9 10, g9 11, g9 12, g9 13, g9 14, g9 15, g9 16, g9 17, g9 18, g9 19, g9 20, g9 21, g9 22, g9 23, g9 24, g9 25, g9 26, g9 27, g9 28, g9 29, g9 30, g9 31, g9 32, g9 33, g9 34, g9 35, g9 36, g9 37, g9 38, g9 39, g9 40, g9 41, g9 42, g9 43, g9 44, g9 45] from rfl] at hw
        rw [k0, k1, k2, k3, k8] at hw
        subst hw
        clear hg9 k0 k1 k2 k3 k8
        clear ha0 ha1 ha2 ha3 ha4 ha5 ha6 ha7 ha8 hKn Kn
        have HO3 := hid h2
        have HG3 := hid h3
        clear h1 h2 h3
        go_wp2_with fail
        go_ret
        exact ⟨v', rfl, by rw [HJ1.out]; exact HO3.out, HG3.out⟩
    · have HJ1 := hid (HJ.out.trans (if_neg (fun k => e1 k.1)))
      have e1' : (l.y == y) = false := by simpa using e1
      clear HJ e1
      go_enter Try.func94, Try.ntmps94
      obtain ⟨v', w3, h1, h2, h3⟩ := append_rn (ty := 25) (s := ⟨y, x0, x1⟩) hB HO.out hl
      go_upto_region 5 with fail
      rename_i Kn hKn
      refine wp_region_lit ?_
      refine sq_start (n := 46) rfl fun a0 hs0 => ?_
      have ha0 := (((((hs0.pin 0 (v := .slice (some ⟨g, 0, none⟩) xs.length c) rfl).pin 1 (v := .int .i64 y) rfl).pin 2 (v := .int .i64 x0) rfl).pin 3 (v := .int .i64 x1) rfl).pin 4 (v := undef) rfl)
      clear hs0
      generalize (fun i => Array.getD _ i undef) = g0 at ha0
      refine sq_val (v := .slice (some ⟨g, 0, none⟩) xs.length c) ha0 rfl (rfl) fun a1 ha1 => ?_
      refine sq_val (v := .int .i64 y) ha1 rfl (rfl) fun a2 ha2 => ?_
      refine sq_val (v := .int .i64 x0) ha2 rfl (rfl) fun a3 ha3 => ?_
      refine sq_val (v := .int .i64 x1) ha3 rfl (rfl) fun a4 ha4 => ?_
      refine sq_val (v := rn (⟨y, x0, x1⟩)) ha4 rfl (run_buildRn rfl rfl rfl) fun a5 ha5 => ?_
      refine sq_val (v := .slice (some ⟨w.heap.size, 0, none⟩) 1 1) ha5 rfl (run_litRn rfl) fun a6 ha6 => ?_
      refine sq_val (v := v') ha6 rfl (run_append rfl rfl h1) fun a7 ha7 => ?_
      refine sq_val (v := v') ha7 rfl (rfl) fun a8 ha8 => ?_
      refine wpList_nil ?_
      refine hKn _ _ ?_
      obtain ⟨g9, hg9, k0, k1, k2, k3, k8⟩ : ∃ g9, Is a8 46 g9 ∧ g9 0 = .slice (some ⟨g, 0, none⟩) xs.length c ∧ g9 1 = .int .i64 y ∧ g9 2 = .int .i64 x0 ∧ g9 3 = .int .i64 x1 ∧ g9 8 = v' := ⟨_, ha8, rfl, rfl, rfl, rfl, rfl⟩
      have hw := hg9.whole
      rw [show ((List.range 46).map g9).toArray = #[g9 0, g9 1, g9 2, g9 3, g9 4, g9 5, g9 6, g9 7, g9 8, g9 9, g9 10, g9 11, g9 12, g9 13, g9 14, g9 15, g9 16, g9 17, g9 18, g9 19, g9 20, g9 21, g9 22, g9 23, g9 24, g9 25, g9 26, g9 27, g9 28, g9 29, g9 30, g9 31, g9 32, g9 33, g9 34, g9 35, g9 36, g9 37, g9 38, g9 39, g9 40, g9 41, g9 42, g9 43, g9 44, g9 45] from rfl] at hw
      rw [k0, k1, k2, k3, k8] at hw
      subst hw
      clear hg9 k0 k1 k2 k3 k8
      clear ha0 ha1 ha2 ha3 ha4 ha5 ha6 ha7 ha8 hKn Kn
      have HO3 := hid h2
      have HG3 := hid h3
      clear h1 h2 h3
      go_wp2_with fail
      go_ret
      exact ⟨v', rfl, by rw [HJ1.out]; exact HO3.out, HG3.out⟩

end Go.Proofs.Ytijkoaggcmgjiaa
