/- Whether two rows of points are the same. -/
import Derived.Test.YtcdedefhofkbhaaRPts
namespace Go.Proofs.Ytcdedefhofkbhaa
open Go Go.RowKit
set_option linter.unusedVariables false
set_option linter.unusedSimpArgs false

section
variable {ρ : Operand → Value} {dst : Option Tmp} {ty : TypeId} {pos : String} {af : Array Edge} {x y : Operand} {w : World} {gd : Option (Nat × Bool)}
theorem run_nePt {p : P2} (hx : ρ x = ptv p) (hy : ρ y = ptv p) :
    (execOp ρ { dst := dst, op := .binOp .neq 23 x y 23, type := ty, pos := pos, after := af, guard := gd }).run Try.prog w = .ok (.value (.bool false)) w := by
  go_simp
theorem run_ptAt {g j : Nat} {p : P2} (hx : ρ x = .pointer (some ⟨g, j, none⟩)) (h0 : w.cell? ⟨g, j, none⟩ = some (.int .i64 p.x)) (h1 : w.cell? ⟨g, j + 1, none⟩ = some (.int .i64 p.y)) :
    (execOp ρ { dst := dst, op := .load 23 x, type := ty, pos := pos, after := af, guard := gd }).run Try.prog w = .ok (.value (ptv p)) w := by
  go_simp
end
set_option maxHeartbeats 1600000 in
set_option maxRecDepth 100000 in
theorem samep_yes (g g' n c c' : Nat) (ps : List P2) (w : World) (hn : n = ps.length) (hm : n ≤ 1000000) (hr : Row2 w g ps) (hr' : Row2 w g' ps) (hg : g < w.heap.size) (hg' : g' < w.heap.size) :
    Calls Try.prog 24 #[.slice (some ⟨g, 0, none⟩) n c, .slice (some ⟨g', 0, none⟩) n c'] w fun e w' => e = .returned (.bool true) ∧ Below w.heap.size w w' := by
  have HR := hid hr
  have HR' := hid hr'
  have HN := hid hn
  clear hr hr' hn
  go_enter Try.func24, Try.ntmps24
  go_wp2_with fail
  go_loopw [13] (fun s13 wr => ∃ k : Nat, k ≤ n ∧ s13 = .int .i64 k ∧ Hid (Below w.heap.size w wr)) (fun s13 _ => n - (intOf s13).toNat)
  case atStart => exact ⟨0, Nat.zero_le _, rfl, hid (Below.refl _ w)⟩
  case round =>
    obtain ⟨k, hk, rfl, HB⟩ := hrel
    by_cases hlt : k < n
    · have hq : ps[k]? = some (ps[k]'(by have := HN.out; omega)) := List.getElem?_eq_getElem _
      have HR1 := hid (HR.out.next hg HB.out)
      have HR2 := hid (HR'.out.next hg' HB.out)
      have hg1 : g < wr.heap.size := Nat.lt_of_lt_of_le hg HB.out.size
      have hg2 : g' < wr.heap.size := Nat.lt_of_lt_of_le hg' HB.out.size
      generalize ps[k]'(_) = q at hq
      go_upto_region 6 with fail
      rename_i Kn hKn
      refine wp_region_fan 8 1000 (Over wr) (by kernel_rfl) (by kernel_rfl) (Over.start wr) ?_
      simp only [List.take_succ_cons, List.take_zero, List.drop_succ_cons, List.drop_zero]
      refine WalksE.sound _ _ _ _ ?_ ((((((((((((((Is.start _ (n := 26) rfl).pin 0 (v := .slice (some ⟨g, 0, none⟩) n c) rfl).pin 1 (v := .slice (some ⟨g', 0, none⟩) n c') rfl).pin 2 (v := undef) rfl).pin 3 (v := undef) rfl).pin 5 (v := .int .i64 (k)) rfl).pin 6 (v := .slice (some ⟨g, 0, none⟩) n c) rfl).pin 7 (v := .int .i64 (n)) rfl).pin 8 (v := .slice (some ⟨g', 0, none⟩) n c') rfl).pin 9 (v := .int .i64 (n)) rfl).pin 10 (v := .bool false) rfl).pin 11 (v := .slice (some ⟨g, 0, none⟩) n c) rfl).pin 12 (v := .int .i64 (n)) rfl).pin 13 (v := .int .i64 (k)) rfl)
      generalize (fun i => Array.getD _ i undef) = gfn
      refine walks_with fun KQ hKQ => ?_
      (refine walks_one fun K hK => ?_); refine st_pure rfl rfl (fun _ => rfl) ?_; refine hK _ ?_; clear hK K
      (refine walks_one fun K hK => ?_); refine st_pure rfl rfl (fun _ => rfl) ?_; refine hK _ ?_; clear hK K
      (refine walks_one fun K hK => ?_); refine st_pure (v := .pointer (some ⟨g, k * 2, none⟩)) rfl rfl (fun _ => (run_indexPt (a := ⟨g, 0, none⟩) (j := k) rfl rfl (by omega) (by omega)).trans (by rw [addr0, Int.toNat_natCast])) ?_; refine hK _ ?_; clear hK K
      (refine walks_one fun K hK => ?_); refine st_read rfl rfl (fun _ _ h => run_ptAt (p := q) rfl ((HR1.out.next hg1 h) k _ hq).1 ((HR1.out.next hg1 h) k _ hq).2) ?_; refine hK _ ?_; clear hK K
      (refine walks_one fun K hK => ?_); refine st_pure rfl rfl (fun _ => rfl) ?_; refine hK _ ?_; clear hK K
      (refine walks_one fun K hK => ?_); refine st_pure rfl rfl (fun _ => rfl) ?_; refine hK _ ?_; clear hK K
      (refine walks_one fun K hK => ?_); refine st_pure (v := .pointer (some ⟨g', k * 2, none⟩)) rfl rfl (fun _ => (run_indexPt (a := ⟨g', 0, none⟩) (j := k) rfl rfl (by omega) (by omega)).trans (by rw [addr0, Int.toNat_natCast])) ?_; refine hK _ ?_; clear hK K
      (refine walks_one fun K hK => ?_); refine st_read rfl rfl (fun _ _ h => run_ptAt (p := q) rfl ((HR2.out.next hg2 h) k _ hq).1 ((HR2.out.next hg2 h) k _ hq).2) ?_; refine hK _ ?_; clear hK K
      refine walks_end fun a9 ha9 => hKQ _ fun w1 hC => ?_
      refine sq_val (v := .bool false) ha9 rfl (run_nePt (p := q) rfl rfl) fun a10 ha10 => ?_
      refine wpList_nil ?_
      refine hKn _ _ ?_
      obtain ⟨g9, hg9, k0, k1, k2, k3, k5, k6, k7, k8, k9, k10, k11, k12, k13, k24⟩ : ∃ g9, Is a10 26 g9 ∧ g9 0 = .slice (some ⟨g, 0, none⟩) n c ∧ g9 1 = .slice (some ⟨g', 0, none⟩) n c' ∧ g9 2 = undef ∧ g9 3 = undef ∧ g9 5 = .int .i64 (k) ∧ g9 6 = .slice (some ⟨g, 0, none⟩) n c ∧ g9 7 = .int .i64 (n) ∧ g9 8 = .slice (some ⟨g', 0, none⟩) n c' ∧ g9 9 = .int .i64 (n) ∧ g9 10 = .bool false ∧ g9 11 = .slice (some ⟨g, 0, none⟩) n c ∧ g9 12 = .int .i64 (n) ∧ g9 13 = .int .i64 (k) ∧ g9 24 = .bool false := ⟨_, ha10, rfl, rfl, rfl, rfl, rfl, rfl, rfl, rfl, rfl, rfl, rfl, rfl, rfl, rfl⟩
      have hw := hg9.whole
      rw [show ((List.range 26).map g9).toArray = #[g9 0, g9 1, g9 2, g9 3, g9 4, g9 5, g9 6, g9 7, g9 8, g9 9, g9 10, g9 11, g9 12, g9 13, g9 14, g9 15, g9 16, g9 17, g9 18, g9 19, g9 20, g9 21, g9 22, g9 23, g9 24, g9 25] from rfl] at hw
      rw [k0, k1, k2, k3, k5, k6, k7, k8, k9, k10, k11, k12, k13, k24] at hw
      subst hw
      clear hg9 k0 k1 k2 k3 k5 k6 k7 k8 k9 k10 k11 k12 k13 k24
      have HB1 := hid (below_next HB.out hC)
      clear ha9 ha10 hC hKQ KQ hKn Kn HR1 HR2 hg1 hg2 HB hq
      go_wp2_with fail
      go_roundw
      case rel => exact ⟨k + 1, by omega, by go_num, HB1⟩
      case measure => simp [intOf]; omega
    · go_wp2_with fail
      go_ret
      exact ⟨rfl, HB.out⟩

end Go.Proofs.Ytcdedefhofkbhaa
