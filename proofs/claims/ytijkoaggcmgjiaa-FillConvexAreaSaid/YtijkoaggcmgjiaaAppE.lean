/- appendEdge of package region. -/
import Derived.Test.YtijkoaggcmgjiaaPass
namespace Go.Proofs.Ytijkoaggcmgjiaa
open Go Go.RowKit
set_option linter.unusedVariables false

theorem run_buildRn2 {ρ : Operand → Value} {dst : Option Tmp} {ty : TypeId} {pos : String} {af : Array Edge} {x y : Operand} {w : World} {gd : Option (Nat × Bool)} {a b : Int} (h0 : ρ x = .int .i64 a) (h1 : ρ y = .int .i64 b) :
    (execOp ρ { dst := dst, op := .build 47 #[(0, x), (1, y)], type := ty, pos := pos, after := af, guard := gd }).run Try.prog w = .ok (.value (rn ⟨a, b, 0⟩)) w := by
  go_simp

set_option maxHeartbeats 1000000 in
theorem appE_t (v : Value) (xs : List Rn) (q : P2) (B : Nat) (w : World) (hB : B ≤ w.heap.size) (ho : OwnR w B v xs) (hl : xs.length ≤ 5000000000) :
    Calls Try.prog 103 #[v, ptv q, .bool true] w fun e w' => ∃ v', e = .returned v' ∧ OwnR w' B v' (xs ++ [⟨q.y, q.x, 0⟩]) ∧ Gr v v' w w' := by
  obtain ⟨W, hW⟩ : ∃ W, W = w.alloc (.cells (pcel q) 40) := ⟨_, rfl⟩
  have HR := hid (show Var W w.heap.size (pcel q) 40 by rw [hW]; exact Var.new _ _ _ _ rfl)
  have HB := hid (show Below w.heap.size w W by rw [hW]; exact below_alloc (Below.refl _ w) _)
  have HO := hid (ho.next HB.out)
  clear ho
  go_enter Try.func103, Try.ntmps103
  go_upto_region 2 with fail
  rw [← hW]
  clear hW
  rename_i Kn hKn
  refine wp_region_lit ?_
  refine sq_start (n := 25) rfl fun a0 hs0 => ?_
  have ha0 := (((((hs0.pin 0 (v := v) rfl).pin 1 (v := ptv q) rfl).pin 2 (v := .bool true) rfl).pin 3 (v := undef) rfl).pin 4 (v := .pointer (some (⟨w.heap.size, 0, none⟩))) rfl)
  clear hs0
  generalize (fun i => Array.getD _ i undef) = g0 at ha0
  refine sq_val (v := v) ha0 rfl (rfl) fun a1 ha1 => ?_
  refine sq_val (v := .pointer (some (⟨w.heap.size, 1, none⟩))) ha1 rfl (run_fldP1 (a := ⟨w.heap.size, 0, none⟩) rfl) fun a2 ha2 => ?_
  refine sq_val (v := .int .i64 q.y) ha2 rfl (run_loadInt rfl (HR.out.cell 1)) fun a3 ha3 => ?_
  refine sq_val (v := .pointer (some (⟨w.heap.size, 0, none⟩))) ha3 rfl (run_fldP0 (a := ⟨w.heap.size, 0, none⟩) rfl) fun a4 ha4 => ?_
  refine sq_val (v := .int .i64 q.x) ha4 rfl (run_loadInt rfl (HR.out.cell 0)) fun a5 ha5 => ?_
  refine sq_val (v := rn ⟨q.y, q.x, 0⟩) ha5 rfl (run_buildRn2 rfl rfl) fun a6 ha6 => ?_
  refine sq_val (v := .slice (some ⟨W.heap.size, 0, none⟩) 1 1) ha6 rfl (run_litRn rfl) fun a7 ha7 => ?_
  obtain ⟨v', w3, h1, h2, h3⟩ := append_rn (ty := 25) (s := ⟨q.y, q.x, 0⟩) (Nat.le_trans hB HB.out.size) HO.out hl
  refine sq_val (v := v') ha7 rfl (run_append rfl rfl h1) fun a8 ha8 => ?_
  refine sq_val (v := v') ha8 rfl (rfl) fun a9 ha9 => ?_
  refine wpList_nil ?_
  refine hKn _ _ ?_
  obtain ⟨g9, hg9, k0, k1, k2, k3, k4, k6⟩ : ∃ g9, Is a9 25 g9 ∧ g9 0 = v ∧ g9 1 = ptv q ∧ g9 2 = .bool true ∧ g9 3 = undef ∧ g9 4 = .pointer (some (⟨w.heap.size, 0, none⟩)) ∧ g9 6 = v' := ⟨_, ha9, rfl, rfl, rfl, rfl, rfl, rfl⟩
  have hw := hg9.whole
  rw [show ((List.range 25).map g9).toArray = #[g9 0, g9 1, g9 2, g9 3, g9 4, g9 5, g9 6, g9 7, g9 8, g9 9, g9 10, g9 11, g9 12, g9 13, g9 14, g9 15, g9 16, g9 17, g9 18, g9 19, g9 20, g9 21, g9 22, g9 23, g9 24] from rfl] at hw
  rw [k0, k1, k2, k3, k4, k6] at hw
  subst hw
  clear hg9 k0 k1 k2 k3 k4 k6
  have HO3 := hid h2
  have HG3 := hid ((Gr.of_below HB.out).trans h3)
  clear h1 h2 h3
  clear ha0 ha1 ha2 ha3 ha4 ha5 ha6 ha7 ha8 ha9 hKn Kn
  go_wp2_with fail
  go_ret
  exact ⟨v', rfl, HO3.out, HG3.out⟩

set_option maxHeartbeats 1000000 in
theorem appE_f (v : Value) (xs : List Rn) (q : P2) (B : Nat) (w : World) (ho : OwnR w B v xs) (hx : xs ≠ []) (hl : xs.length ≤ 5000000000) :
    Calls Try.prog 103 #[v, ptv q, .bool false] w fun e w' => ∃ v', e = .returned v' ∧ OwnR w' B v' (setEnd xs q.x) ∧ Gr v v' w w' := by
  obtain ⟨g, c, rfl, hg1, hg2, hg3⟩ := ho.one hx
  have HX := hid hx
  have hpos : 1 ≤ xs.length := List.length_pos_iff.2 hx
  obtain ⟨W, hW⟩ : ∃ W, W = w.alloc (.cells (pcel q) 40) := ⟨_, rfl⟩
  have HR := hid (show Var W w.heap.size (pcel q) 40 by rw [hW]; exact Var.new _ _ _ _ rfl)
  have HB := hid (show Below w.heap.size w W by rw [hW]; exact below_alloc (Below.refl _ w) _)
  have HO := hid (ho.next HB.out)
  obtain ⟨r0, r1, rf⟩ := HR.out.read2
  have hj : (xs.length - 1) * 3 + 2 < xs.length * 3 := by omega
  have k0 := World.ownsRow.cellAt HO.out ((xs.length - 1) * 3 + 2) hj
  rw [List.getElem?_eq_getElem (by rw [flat_length]; exact hj)] at k0
  have k1 := World.ownsRow.frozenAt HO.out ((xs.length - 1) * 3 + 2)
  generalize (flat xs)[(xs.length - 1) * 3 + 2]'_ = u0 at k0
  clear ho hx hj
  go_enter Try.func103, Try.ntmps103
  go_upto_region 3 with fail
  rw [← hW]
  clear hW
  go_wp2_with fail
  go_ret
  exact ⟨_, rfl, HO.out.setEnd HX.out _, (Gr.of_below HB.out).trans Gr.set⟩

end Go.Proofs.Ytijkoaggcmgjiaa
