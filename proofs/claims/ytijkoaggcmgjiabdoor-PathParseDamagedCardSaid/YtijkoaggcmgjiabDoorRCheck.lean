/- What the reference's PathCheck returns. -/
import Derived.Test.YtijkoaggcmgjiabDoorRChk
namespace Go.Proofs.YtijkoaggcmgjiabDoor
open Go Go.RowKit
set_option linter.unusedVariables false

section
variable {P : Program} {ρ : Operand → Value} {dst : Option Tmp} {ty : TypeId} {pos : String} {af : Array Edge} {x y : Operand} {w : World} {gd : Option (Nat × Bool)}
theorem run_index {a : Addr} {j : Int} {n c : Nat} (hx : ρ x = .slice (some a) n c) (hy : ρ y = .int .i64 j) (h0 : 0 ≤ j) (hj : j < (n : Int)) :
    (execOp ρ { dst := dst, op := .indexAddr 22 x y, type := ty, pos := pos, after := af, guard := gd }).run Tryd.prog w = .ok (.value (.pointer (some (a.add (j.toNat * 6))))) w := by
  go_simp
theorem run_eqInt {i j : Int} (hx : ρ x = .int .i64 i) (hy : ρ y = .int .i64 j) :
    (execOp ρ { dst := dst, op := .binOp .eql 3 x y 3, type := ty, pos := pos, after := af, guard := gd }).run Tryd.prog w = .ok (.value (.bool (decide (i = j)))) w := by
  by_cases e : i = j
  · subst e
    rw [show decide (i = i) = true by simp]
    go_simp
  · rw [show decide (i = j) = false by simp [e]]
    have e' : (i == j) = false := by simp [e]
    go_simp
theorem run_fld0 {a : Addr} (hx : ρ x = .pointer (some a)) :
    (execOp ρ { dst := dst, op := .fieldAddr 38 x 0, type := ty, pos := pos, after := af, guard := gd }).run Tryd.prog w = .ok (.value (.pointer (some a))) w := by
  go_simp
theorem run_sub1 {i : Int} (hx : ρ x = .int .i64 i) (hy : ρ y = .int .i64 1) (h0 : 0 < i) (h1 : i < 9223372036854775808) :
    (execOp ρ { dst := dst, op := .binOp .sub 3 x y 3, type := ty, pos := pos, after := af, guard := gd }).run Tryd.prog w = .ok (.value (.int .i64 (i - 1))) w := by
  have e : IntKind.i64.wrap (i - 1) = i - 1 := by rw [IntKind.wrap_i64]; omega
  go_simp
end

theorem enters_rseg : Enters Tryd.prog 13 := enters_of Tryd.func13 (by kernel_rfl) rfl
theorem rseg_over {W : World} {u v : Value} {s : Sg} {o g : Bool} {w : World} (h : Over W g w) (hu : u = seg s) (hv : v = .bool o) : Calls Tryd.prog 13 #[u, v] w fun r w' => r = .returned (.int .i64 (chkSeg s (!o))) ∧ Over W g w' := by
  subst hu hv
  exact (rseg_any _ _ w).mono fun r w' ⟨hr, hb⟩ => ⟨hr, h.next hb⟩

theorem rcheck_large (A : Option Addr) (n c : Nat) (w : World) (h : 1000 < n) :
    Calls Tryd.prog 5 #[.slice A n c] w fun e w' => e = .returned (.int .i64 2) ∧ Below w.heap.size w w' := by
  go_enter Tryd.func5, Tryd.ntmps5
  go_wp2_with fail
  go_ret
  exact ⟨rfl, Below.refl _ w⟩

/-- Whether a subpath is open ahead of segment j. -/
def opn (ss : List Sg) (j : Nat) : Bool := decide (0 < j ∧ (ss.getD (j - 1) default).k ≠ 4)

set_option maxHeartbeats 1000000 in
theorem rcheck_rest (A : Option Addr) (ss : List Sg) (n c : Nat) (w : World) (hn : n = ss.length) (h : n ≤ 1000) (hs : Segs w A ss) :
    Calls Tryd.prog 5 #[.slice A n c] w fun e w' => e = .returned (.int .i64 (chkAll false ss)) ∧ Below w.heap.size w w' := by
  have HS := hid hs
  have HN := hid hn
  clear hs hn
  go_enter Tryd.func5, Tryd.ntmps5
  go_wp2_with fail
  go_loopw [10] (fun s10 wr => ∃ (j : Nat), j ≤ n ∧ s10 = .int .i64 j ∧ Hid (chkAll false ss = chkAll (opn ss j) (ss.drop j)) ∧ Hid (Below w.heap.size w wr)) (fun s10 _ => n - (intOf s10).toNat)
  case atStart => exact ⟨0, Nat.zero_le _, rfl, hid rfl, hid (Below.refl _ w)⟩
  case round =>
    obtain ⟨j, hj, rfl, HC, HB⟩ := hrel
    by_cases hlt : j < n
    · have hjl : j < ss.length := by rw [← HN.out]; exact hlt
      obtain ⟨a, rfl, hal, hsa⟩ := (HS.out.next HB.out).at_ hjl
      have HC' := hid (HC.out.trans (chkAll_at hjl))
      have HO := hid (show opn ss (j + 1) = decide (ss[j].k ≠ 4) by simp [opn, hjl])
      have HA := hid hsa
      have HAL := hid hal
      have HP := hid (show 0 < j → ∃ g, opn ss j = decide (g.k ≠ 4) ∧ SegAt wr (a.add ((j - 1) * 6)) g from fun h0 => by
        have hp : j - 1 < ss.length := by omega
        obtain ⟨a', e, -, hp'⟩ := (HS.out.next HB.out).at_ hp
        cases e
        exact ⟨ss[j - 1], by simp [opn, h0, hp], hp'⟩)
      have HZ := hid (show j = 0 → opn ss j = false from fun h0 => by subst h0; rfl)
      clear hsa hal HC
      generalize ss[j] = g at HA HC' HO
      generalize opn ss j = o at HC' HP HZ
      go_upto_region 6 with fail
      rename_i Kn hKn
      refine wp_region_fan 16 1000 (Over wr) (by kernel_rfl) (by kernel_rfl) (Over.start wr) ?_
      simp only [List.take_succ_cons, List.take_zero, List.drop_succ_cons, List.drop_zero]
      have LS := fun b w1 (h : Over wr b w1) => Over.seg HA.out (by rw [add_block]; exact HAL.out) h
      have hj1 : (0:Int) ≤ (j:Int) := by omega
      have hj2 : (j:Int) < (n:Int) := by omega
      rcases Nat.eq_zero_or_pos j with hj0 | hj0
      · have ho : o = (!true) := HZ.out hj0
        have hz : decide ((j:Int) = 0) = true := by simp [hj0]
        clear hj0 HP HZ
        refine WalksE.sound _ _ _ _ ?_ ((((((((((Is.start _ (n := 33) rfl).pin 0 (v := .slice (some a) n c) rfl).pin 1 (v := undef) rfl).pin 3 (v := .int .i64 j) rfl).pin 5 (v := .slice (some a) n c) rfl).pin 6 (v := .int .i64 n) rfl).pin 7 (v := .bool (decide (1000 < (n:Int)))) rfl).pin 8 (v := .slice (some a) n c) rfl).pin 9 (v := .int .i64 n) rfl).pin 10 (v := .int .i64 j) rfl)
        generalize (fun i => Array.getD _ i undef) = g0
        refine walks_with fun KQ hKQ => ?_
        (refine walks_one fun K hK => ?_); refine st_pure rfl rfl (fun _ => rfl) ?_; refine hK _ ?_; clear hK K
        (refine walks_one fun K hK => ?_); refine st_pure rfl rfl (fun _ => rfl) ?_; refine hK _ ?_; clear hK K
        (refine walks_one fun K hK => ?_); refine st_pure rfl rfl (fun _ => run_index rfl rfl hj1 hj2) ?_; refine hK _ ?_; clear hK K
        (refine walks_one fun K hK => ?_); refine st_loadSeg LS rfl rfl rfl ?_; refine hK _ ?_; clear hK K
        (refine walks_one fun K hK => ?_); refine st_pure rfl rfl (fun _ => rfl) ?_; refine hK _ ?_; clear hK K
        (refine walks_one fun K hK => ?_); refine st_pure (v := .bool true) rfl rfl (fun _ => (run_eqInt rfl rfl).trans (by rw [hz])) ?_; refine hK _ ?_; clear hK K
        (refine walks_one fun K hK => ?_); refine st_pure rfl rfl (fun _ => rfl) ?_; refine hK _ ?_; clear hK K
        (refine walks_one fun K hK => ?_); refine st_skip rfl rfl rfl ?_; refine hK _ ?_; clear hK K
        (refine walks_one fun K hK => ?_); refine st_skip rfl rfl rfl ?_; refine hK _ ?_; clear hK K
        (refine walks_one fun K hK => ?_); refine st_skip rfl rfl rfl ?_; refine hK _ ?_; clear hK K
        (refine walks_one fun K hK => ?_); refine st_skip rfl rfl rfl ?_; refine hK _ ?_; clear hK K
        (refine walks_one fun K hK => ?_); refine st_skip rfl rfl rfl ?_; refine hK _ ?_; clear hK K
        (refine walks_one fun K hK => ?_); refine st_skip rfl rfl rfl ?_; refine hK _ ?_; clear hK K
        (refine walks_one fun K hK => ?_); refine st_skip rfl rfl rfl ?_; refine hK _ ?_; clear hK K
        (refine walks_one fun K hK => ?_); refine st_pure (v := .bool true) rfl rfl (fun _ => rfl) ?_; refine hK _ ?_; clear hK K
        (refine walks_one fun K hK => ?_); refine st_call rfl rfl (fun _ => run_call2 rfl enters_rseg) (fun _ _ h => rseg_over h rfl rfl) ?_; refine hK _ ?_; clear hK K
        refine walks_end fun a9 ha9 => hKQ _ fun w1 hC => ?_
        have e28 : a9.eval (Operand.tmp 28) = .int .i64 (chkSeg g o) := by rw [ha9.eval, ho]; rfl
        refine tailB ?_
        refine hKn _ _ ?_
        rw [e28]
        obtain ⟨g9, hg9, k0, k1, k3, k5, k6, k7, k8, k9, k10, h4⟩ : ∃ g9, Is (a9.put (some 4) (.int .i64 (chkSeg g (!true)))) 33 g9 ∧ g9 0 = .slice (some a) n c ∧ g9 1 = undef ∧ g9 3 = .int .i64 j ∧ g9 5 = .slice (some a) n c ∧ g9 6 = .int .i64 n ∧ g9 7 = .bool (decide (1000 < (n:Int))) ∧ g9 8 = .slice (some a) n c ∧ g9 9 = .int .i64 n ∧ g9 10 = .int .i64 j ∧ g9 4 = .int .i64 (chkSeg g (!true)) := ⟨_, ha9.put (d := 4) (by decide) _, rfl, rfl, rfl, rfl, rfl, rfl, rfl, rfl, rfl, rfl⟩
        rw [show (!true) = o from ho.symm] at hg9 h4
        have hw := hg9.whole
        rw [show ((List.range 33).map g9).toArray = #[g9 0, g9 1, g9 2, g9 3, g9 4, g9 5, g9 6, g9 7, g9 8, g9 9, g9 10, g9 11, g9 12, g9 13, g9 14, g9 15, g9 16, g9 17, g9 18, g9 19, g9 20, g9 21, g9 22, g9 23, g9 24, g9 25, g9 26, g9 27, g9 28, g9 29, g9 30, g9 31, g9 32] from rfl] at hw
        rw [k0, k1, k3, k5, k6, k7, k8, k9, k10, h4] at hw
        rw [show (a9.put (some 4) _) = _ from hw]
        have HB1 := hid (below_next HB.out hC)
        clear hw hC hg9 k0 k1 k3 k5 k6 k7 k8 k9 k10 h4 ha9 hKQ KQ hKn LS ho e28 hz
        by_cases he : chkSeg g o = 0
        · rw [if_pos he] at HC'
          rw [he]
          clear he
          go_wp2_with fail
          go_roundw
          case rel => exact ⟨j + 1, by omega, by go_num, hid (by rw [HO.out]; exact HC'.out), HB1⟩
          case measure => simp [intOf]; omega
        · rw [if_neg he] at HC'
          have hne : (chkSeg g o != 0) = true := by simp [he]
          clear he
          go_wp2_with fail
          go_ret
          exact ⟨congrArg (fun z => Ending.returned (Value.int .i64 z)) HC'.out.symm, HB1.out⟩
      · obtain ⟨q, ho', hq⟩ := HP.out hj0
        have ho : o = (!(decide (q.k = 4))) := by rw [ho']; simp
        have hz : decide ((j:Int) = 0) = false := by simp; omega
        have hj3 : (0:Int) < (j:Int) := by omega
        have LP := fun b w1 (h : Over wr b w1) => (Over.seg hq (by rw [add_block]; exact HAL.out) h).c0
        rw [show (a.add ((j - 1) * 6)) = (a.add (((j:Int) - 1).toNat * 6)) by rw [show ((j:Int) - 1).toNat = j - 1 by omega]] at LP
        clear ho' hq hj0 HP HZ
        refine WalksE.sound _ _ _ _ ?_ ((((((((((Is.start _ (n := 33) rfl).pin 0 (v := .slice (some a) n c) rfl).pin 1 (v := undef) rfl).pin 3 (v := .int .i64 j) rfl).pin 5 (v := .slice (some a) n c) rfl).pin 6 (v := .int .i64 n) rfl).pin 7 (v := .bool (decide (1000 < (n:Int)))) rfl).pin 8 (v := .slice (some a) n c) rfl).pin 9 (v := .int .i64 n) rfl).pin 10 (v := .int .i64 j) rfl)
        generalize (fun i => Array.getD _ i undef) = g0
        refine walks_with fun KQ hKQ => ?_
        (refine walks_one fun K hK => ?_); refine st_pure rfl rfl (fun _ => rfl) ?_; refine hK _ ?_; clear hK K
        (refine walks_one fun K hK => ?_); refine st_pure rfl rfl (fun _ => rfl) ?_; refine hK _ ?_; clear hK K
        (refine walks_one fun K hK => ?_); refine st_pure rfl rfl (fun _ => run_index rfl rfl hj1 hj2) ?_; refine hK _ ?_; clear hK K
        (refine walks_one fun K hK => ?_); refine st_loadSeg LS rfl rfl rfl ?_; refine hK _ ?_; clear hK K
        (refine walks_one fun K hK => ?_); refine st_pure rfl rfl (fun _ => rfl) ?_; refine hK _ ?_; clear hK K
        (refine walks_one fun K hK => ?_); refine st_pure (v := .bool false) rfl rfl (fun _ => (run_eqInt rfl rfl).trans (by rw [hz])) ?_; refine hK _ ?_; clear hK K
        (refine walks_one fun K hK => ?_); refine st_pure rfl rfl (fun _ => rfl) ?_; refine hK _ ?_; clear hK K
        (refine walks_one fun K hK => ?_); refine st_pure rfl rfl (fun _ => rfl) ?_; refine hK _ ?_; clear hK K
        (refine walks_one fun K hK => ?_); refine st_pure rfl rfl (fun _ => rfl) ?_; refine hK _ ?_; clear hK K
        (refine walks_one fun K hK => ?_); refine st_pure rfl rfl (fun _ => run_sub1 rfl rfl hj3 (by omega)) ?_; refine hK _ ?_; clear hK K
        (refine walks_one fun K hK => ?_); refine st_pure rfl rfl (fun _ => run_index rfl rfl (by omega) (by omega)) ?_; refine hK _ ?_; clear hK K
        (refine walks_one fun K hK => ?_); refine st_pure rfl rfl (fun _ => run_fld0 rfl) ?_; refine hK _ ?_; clear hK K
        (refine walks_one fun K hK => ?_); refine st_loadFld LP rfl rfl rfl ?_; refine hK _ ?_; clear hK K
        (refine walks_one fun K hK => ?_); refine st_pure (v := .bool (decide (q.k = 4))) rfl rfl (fun _ => run_eqInt rfl rfl) ?_; refine hK _ ?_; clear hK K
        (refine walks_one fun K hK => ?_); refine st_pure (v := .bool (decide (q.k = 4))) rfl rfl (fun _ => rfl) ?_; refine hK _ ?_; clear hK K
        (refine walks_one fun K hK => ?_); refine st_call rfl rfl (fun _ => run_call2 rfl enters_rseg) (fun _ _ h => rseg_over h rfl rfl) ?_; refine hK _ ?_; clear hK K
        refine walks_end fun a9 ha9 => hKQ _ fun w1 hC => ?_
        have e28 : a9.eval (Operand.tmp 28) = .int .i64 (chkSeg g o) := by rw [ha9.eval, ho]; rfl
        refine tailB ?_
        refine hKn _ _ ?_
        rw [e28]
        obtain ⟨g9, hg9, k0, k1, k3, k5, k6, k7, k8, k9, k10, h4⟩ : ∃ g9, Is (a9.put (some 4) (.int .i64 (chkSeg g (!(decide (q.k = 4)))))) 33 g9 ∧ g9 0 = .slice (some a) n c ∧ g9 1 = undef ∧ g9 3 = .int .i64 j ∧ g9 5 = .slice (some a) n c ∧ g9 6 = .int .i64 n ∧ g9 7 = .bool (decide (1000 < (n:Int))) ∧ g9 8 = .slice (some a) n c ∧ g9 9 = .int .i64 n ∧ g9 10 = .int .i64 j ∧ g9 4 = .int .i64 (chkSeg g (!(decide (q.k = 4)))) := ⟨_, ha9.put (d := 4) (by decide) _, rfl, rfl, rfl, rfl, rfl, rfl, rfl, rfl, rfl, rfl⟩
        rw [show (!(decide (q.k = 4))) = o from ho.symm] at hg9 h4
        have hw := hg9.whole
        rw [show ((List.range 33).map g9).toArray = #[g9 0, g9 1, g9 2, g9 3, g9 4, g9 5, g9 6, g9 7, g9 8, g9 9, g9 10, g9 11, g9 12, g9 13, g9 14, g9 15, g9 16, g9 17, g9 18, g9 19, g9 20, g9 21, g9 22, g9 23, g9 24, g9 25, g9 26, g9 27, g9 28, g9 29, g9 30, g9 31, g9 32] from rfl] at hw
        rw [k0, k1, k3, k5, k6, k7, k8, k9, k10, h4] at hw
        rw [show (a9.put (some 4) _) = _ from hw]
        have HB1 := hid (below_next HB.out hC)
        clear hw hC LP hg9 k0 k1 k3 k5 k6 k7 k8 k9 k10 h4 ha9 hKQ KQ hKn LS ho e28 hz
        by_cases he : chkSeg g o = 0
        · rw [if_pos he] at HC'
          rw [he]
          clear he
          go_wp2_with fail
          go_roundw
          case rel => exact ⟨j + 1, by omega, by go_num, hid (by rw [HO.out]; exact HC'.out), HB1⟩
          case measure => simp [intOf]; omega
        · rw [if_neg he] at HC'
          have hne : (chkSeg g o != 0) = true := by simp [he]
          clear he
          go_wp2_with fail
          go_ret
          exact ⟨congrArg (fun z => Ending.returned (Value.int .i64 z)) HC'.out.symm, HB1.out⟩
    · have hd : chkAll (opn ss j) (ss.drop j) = 0 := by rw [List.drop_eq_nil_of_le (by rw [← HN.out]; omega)]; rfl
      have HD := hid (HC.out.trans hd)
      clear hd HC
      go_wp2_with fail
      go_ret
      exact ⟨congrArg (fun z => Ending.returned (Value.int .i64 z)) HD.out.symm, HB.out⟩

theorem rcheck_any (A : Option Addr) (ss : List Sg) (n c : Nat) (w : World) (hn : n = ss.length) (hs : n ≤ 1000 → Segs w A ss) :
    Calls Tryd.prog 5 #[.slice A n c] w fun e w' => e = .returned (.int .i64 (chk ss)) ∧ Below w.heap.size w w' := by
  unfold chk
  by_cases h : 1000 < ss.length
  · rw [if_pos h]; exact rcheck_large A n c w (by omega)
  · rw [if_neg h]; exact rcheck_rest A ss n c w hn (by omega) (hs (by omega))

end Go.Proofs.YtijkoaggcmgjiabDoor
