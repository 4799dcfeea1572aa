/- slices.Equal of equal paths; what a reversed path has in common with the path. -/
import Derived.Test.YtbdpjdhnmllkiaaDoorPaths
import Derived.Test.YtbdpjdhnmllkiaaDoorRevQ
import Derived.Test.YtbdpjdhnmllkiaaDoorBnd
namespace Go.Proofs.YtbdpjdhnmllkiaaDoor
open Go Go.RowKit
set_option linter.unusedVariables false

/-! ### slices.Equal -/
theorem equal_yes (A A' : Option Addr) (ss : List Sg) (n n' c c' : Nat) (w : World) (hn : n = ss.length) (hn' : n' = ss.length) (hs : Segs w A ss) (hs' : Segs w A' ss) (hl : ss.length ≤ maxLen) :
    Calls Tryd.prog 17 #[.slice A n c, .slice A' n' c'] w fun e w' => e = .returned (.bool true) ∧ Below w.heap.size w w' := by
  have HS := hid hs
  have HS' := hid hs'
  have hll : (ss.length : Int) ≤ 9223372036854775807 := by unfold maxLen at hl; omega
  subst hn
  subst hn'
  clear hs hs' hl
  go_enter Tryd.func17, Tryd.ntmps17
  go_wp2_with fail
  go_loopw [13] (fun s13 wr => ∃ j : Nat, j ≤ ss.length ∧ s13 = .int .i64 j ∧ Hid (Below w.heap.size w wr)) (fun s13 _ => ss.length - (intOf s13).toNat)
  case atStart => exact ⟨0, Nat.zero_le _, rfl, hid (Below.refl _ w)⟩
  case round =>
    obtain ⟨j, hj, rfl, HB⟩ := hrel
    by_cases hlt : j < ss.length
    · obtain ⟨a, rfl, hal, hsa⟩ := (HS.out.next HB.out).at_ hlt
      obtain ⟨a', rfl, hal', hsa'⟩ := (HS'.out.next HB.out).at_ hlt
      have HA := hid hsa
      have HAL := hid hal
      have HA' := hid hsa'
      have HAL' := hid hal'
      clear hsa hal hsa' hal'
      generalize ss[j] = g at HA HA'
      have hj1 : (0:Int) ≤ (j:Int) := by omega
      have hj2 : (j:Int) < (ss.length:Int) := by omega
      have hdec : decide (g ≠ g) = false := by simp
      go_upto_region 6 with fail
      rename_i Kn hKn
      refine wp_region_fan 8 1000 (Over wr) (by kernel_rfl) (by kernel_rfl) (Over.start wr) ?_
      simp only [List.take_succ_cons, List.take_zero, List.drop_succ_cons, List.drop_zero]
      have LS := fun b w1 (h : Over wr b w1) => Over.seg HA.out (by rw [add_block]; exact HAL.out) h
      have LS' := fun b w1 (h : Over wr b w1) => Over.seg HA'.out (by rw [add_block]; exact HAL'.out) h
      refine WalksE.sound _ _ _ _ ?_ ((((((((((((((Is.start _ (n := 26) rfl).pin 0 (v := .slice (some a) ss.length c) rfl).pin 1 (v := .slice (some a') ss.length c') rfl).pin 2 (v := undef) rfl).pin 3 (v := undef) rfl).pin 5 (v := .int .i64 j) rfl).pin 6 (v := .slice (some a) ss.length c) rfl).pin 7 (v := .int .i64 ss.length) rfl).pin 8 (v := .slice (some a') ss.length c') rfl).pin 9 (v := .int .i64 ss.length) rfl).pin 10 (v := .bool false) rfl).pin 11 (v := .slice (some a) ss.length c) rfl).pin 12 (v := .int .i64 ss.length) rfl).pin 13 (v := .int .i64 j) rfl)
      generalize (fun i => Array.getD _ i undef) = g0
      refine walks_with fun KQ hKQ => ?_
      (refine walks_one fun K hK => ?_); refine st_pure rfl rfl (fun _ => rfl) ?_; refine hK _ ?_; clear hK K
      (refine walks_one fun K hK => ?_); refine st_pure rfl rfl (fun _ => rfl) ?_; refine hK _ ?_; clear hK K
      (refine walks_one fun K hK => ?_); refine st_pure rfl rfl (fun _ => run_index rfl rfl hj1 hj2) ?_; refine hK _ ?_; clear hK K
      (refine walks_one fun K hK => ?_); refine st_loadSeg LS rfl rfl rfl ?_; refine hK _ ?_; clear hK K
      (refine walks_one fun K hK => ?_); refine st_pure rfl rfl (fun _ => rfl) ?_; refine hK _ ?_; clear hK K
      (refine walks_one fun K hK => ?_); refine st_pure rfl rfl (fun _ => rfl) ?_; refine hK _ ?_; clear hK K
      (refine walks_one fun K hK => ?_); refine st_pure rfl rfl (fun _ => run_index rfl rfl hj1 hj2) ?_; refine hK _ ?_; clear hK K
      (refine walks_one fun K hK => ?_); refine st_loadSeg LS' rfl rfl rfl ?_; refine hK _ ?_; clear hK K
      refine walks_end fun a9 ha9 => hKQ _ fun w1 hC => ?_
      have e90 : a9.eval (Operand.tmp 19) = seg g := by rw [ha9.eval]; rfl
      have e91 : a9.eval (Operand.tmp 23) = seg g := by rw [ha9.eval]; rfl
      refine tailV rfl rfl ((run_neSeg e90 e91).trans (by rw [hdec])) ?_
      refine hKn _ _ ?_
      obtain ⟨g9, hg9, k0, k1, k2, k3, k5, k6, k7, k8, k9, k10, k11, k12, k13, k24⟩ : ∃ g9, Is (a9.put (some 24) (.bool false)) 26 g9 ∧ g9 0 = .slice (some a) ss.length c ∧ g9 1 = .slice (some a') ss.length c' ∧ g9 2 = undef ∧ g9 3 = undef ∧ g9 5 = .int .i64 j ∧ g9 6 = .slice (some a) ss.length c ∧ g9 7 = .int .i64 ss.length ∧ g9 8 = .slice (some a') ss.length c' ∧ g9 9 = .int .i64 ss.length ∧ g9 10 = .bool false ∧ g9 11 = .slice (some a) ss.length c ∧ g9 12 = .int .i64 ss.length ∧ g9 13 = .int .i64 j ∧ g9 24 = .bool false := ⟨_, ha9.put (d := 24) (by decide) _, rfl, rfl, rfl, rfl, rfl, rfl, rfl, rfl, rfl, rfl, rfl, rfl, rfl, rfl⟩
      have hw := hg9.whole
      rw [show ((List.range 26).map g9).toArray = #[g9 0, g9 1, g9 2, g9 3, g9 4, g9 5, g9 6, g9 7, g9 8, g9 9, g9 10, g9 11, g9 12, g9 13, g9 14, g9 15, g9 16, g9 17, g9 18, g9 19, g9 20, g9 21, g9 22, g9 23, g9 24, g9 25] from rfl] at hw
      rw [k0, k1, k2, k3, k5, k6, k7, k8, k9, k10, k11, k12, k13, k24] at hw
      rw [show (a9.put (some 24) _) = _ from hw]
      have HR := hid hC
      clear hw hC hg9 k0 k1 k2 k3 k5 k6 k7 k8 k9 k10 k11 k12 k13 k24 ha9 e90 e91 hKQ KQ hKn LS LS'
      have HB1 := hid (below_next HB.out HR.out)
      go_wp2_with fail
      go_roundw
      case rel => exact ⟨j + 1, by omega, by go_num, HB1⟩
      case measure => simp [intOf]; omega
    · go_wp2_with fail
      go_ret
      exact ⟨rfl, HB.out⟩


theorem bnd_rev {ss : List Sg} (hok : chk ss = 0) : bE (rev ss) = bE ss ∧ bB (rev ss) = bB ss := by
  have hc := rev_chk hok
  have hl := rev_length hok
  have hE : bE (rev ss) = bE ss := by
    unfold bE
    have e1 : ¬ (chk (rev ss) ≠ 0) := fun k => k hc
    have e2 : ¬ (chk ss ≠ 0) := fun k => k hok
    rw [if_neg e1, if_neg e2]
    clear e1 e2
    cases ss with
    | nil => rfl
    | cons s r => rw [if_neg (show ¬ (s :: r) = [] by simp), if_neg (show ¬ rev (s :: r) = [] from fun e => by rw [e] at hl; simp at hl)]
  refine ⟨hE, ?_⟩
  unfold bB
  rw [hE]
  by_cases h : bE ss = 0
  · rw [if_pos h, if_pos h]
    have hp : 0 < ss.length := by
      rcases Nat.eq_zero_or_pos ss.length with e | e
      · exfalso
        rw [List.eq_nil_of_length_eq_zero e] at h
        exact absurd h (by decide)
      · exact e
    rw [bnds_far hc (by omega), bnds_far hok hp, all_perm (rev_pts hok)]
  · rw [if_neg h, if_neg h]

end Go.Proofs.YtbdpjdhnmllkiaaDoor
