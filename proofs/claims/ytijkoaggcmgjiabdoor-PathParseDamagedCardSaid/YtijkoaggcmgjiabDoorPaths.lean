/- The statements' own small helpers: box, paths (both), SameSegs. -/
import Derived.Test.YtijkoaggcmgjiabDoorText
import Derived.Test.YtijkoaggcmgjiabDoorSlc
import Derived.Test.YtijkoaggcmgjiabDoorRCheck
namespace Go.Proofs.YtijkoaggcmgjiabDoor
open Go Go.RowKit
set_option linter.unusedVariables false

def boxP : List Sg := rectP 0 0 4 2
theorem box_rect : rectE 0 0 4 2 = 0 := by decide
theorem box_segs : rectS 0 0 4 2 = boxP := by unfold rectS; rw [if_pos box_rect]; rfl
theorem box_chk : chk boxP = 0 := by decide
theorem itoa_small : Lib.itoa 0 = [48] ∧ Lib.itoa 2 = [50] ∧ Lib.itoa 4 = [52] := by
  refine ⟨?_, ?_, ?_⟩ <;> (unfold Lib.itoa; rw [if_neg (by omega)]; unfold Lib.decDigits; rfl)
theorem box_text : textOf boxP = [109, 32, 48, 32, 48, 32, 108, 32, 52, 32, 48, 32, 108, 32, 52, 32, 50, 32, 108, 32, 48, 32, 50, 32, 104] := by
  obtain ⟨h0, h2, h4⟩ := itoa_small
  have e1 : segT ⟨1, 0, 0, 0, 0, 0⟩ = [109, 32, 48, 32, 48] := by unfold segT words; simp [h0]
  have e2 : segT ⟨2, 4, 0, 0, 0, 0⟩ = [108, 32, 52, 32, 48] := by unfold segT words; simp [h0, h4]
  have e3 : segT ⟨2, 4, 2, 0, 0, 0⟩ = [108, 32, 52, 32, 50] := by unfold segT words; simp [h2, h4]
  have e4 : segT ⟨2, 0, 2, 0, 0, 0⟩ = [108, 32, 48, 32, 50] := by unfold segT words; simp [h0, h2]
  have e5 : segT ⟨4, 0, 0, 0, 0, 0⟩ = [104] := rfl
  have e : boxP.map segT = [[109, 32, 48, 32, 48], [108, 32, 52, 32, 48], [108, 32, 52, 32, 50], [108, 32, 48, 32, 50], [104]] := by
    unfold boxP rectP
    simp only [List.map_cons, List.map_nil, e1, e2, e3, e4, e5]
  unfold textOf
  rw [e, Lib.join_cons]
  rfl
theorem box_out : (⟨(outT boxP).toArray⟩ : ByteArray) = ⟨#[109, 32, 48, 32, 48, 32, 108, 32, 52, 32, 48, 32, 108, 32, 52, 32, 50, 32, 108, 32, 48, 32, 50, 32, 104]⟩ := by
  unfold outT
  rw [if_pos box_chk, box_text]

theorem rect_box (w : World) : Calls Tryd.prog 11 #[.int .i64 0, .int .i64 0, .int .i64 4, .int .i64 2] w fun e w' => (∃ A n c, e = .returned (.tuple #[.slice A n c, .int .i64 0]) ∧ n = boxP.length ∧ Segs w' A boxP) ∧ Below w.heap.size w w' := by
  have h := rect_any 0 0 4 2 w
  rwa [box_rect, box_segs] at h
theorem text_box (A : Option Addr) (n c : Nat) (w : World) (hn : n = boxP.length) (hs : Segs w A boxP) (htab : Tab w) :
    Calls Tryd.prog 12 #[.slice A n c] w fun e w' => e = .returned (.tuple #[.string ⟨#[109, 32, 48, 32, 48, 32, 108, 32, 52, 32, 48, 32, 108, 32, 52, 32, 50, 32, 108, 32, 48, 32, 50, 32, 104]⟩, .int .i64 0]) ∧ Below w.heap.size w w' := by
  have h := text_any A boxP n c w hn (fun _ => hs) htab
  rwa [box_out, box_chk] at h

theorem paths_law (w : World) (htab : Tab w) : Calls Tryd.prog 4 #[] w fun e w' => e = .returned (.bool true) ∧ Below w.heap.size w w' := by
  have HT := hid htab
  clear htab
  go_enter Tryd.func4, Tryd.ntmps4
  go_wp2_with fail
  (with_reducible refine (rect_box _).mono ?_); rintro e w1 ⟨⟨A, n, c, rfl, hn, hs⟩, hb⟩
  have HB := hid hb
  have HN := hid hn
  have HS := hid hs
  clear hb hn hs
  go_wp2_with fail
  (with_reducible refine (text_box A n c _ HN.out HS.out (tab_next HT.out HB.out)).mono ?_); rintro e w2 ⟨rfl, hb⟩
  have HB2 := hid (below_next HB.out hb)
  clear hb
  go_wp2_with fail
  go_ret
  exact ⟨rfl, HB2.out⟩

theorem same_yes (A A' : Option Addr) (ss : List Sg) (n n' c c' : Nat) (w : World) (hn : n = ss.length) (hn' : n' = ss.length) (hs : Segs w A ss) (hs' : Segs w A' ss) (hl : ss.length ≤ maxLen) :
    Calls Tryd.prog 10 #[.slice A n c, .slice A' n' c'] w fun e w' => e = .returned (.bool true) ∧ Below w.heap.size w w' := by
  have HS := hid hs
  have HS' := hid hs'
  have hll : (ss.length : Int) ≤ 9223372036854775807 := by unfold maxLen at hl; omega
  subst hn
  subst hn'
  clear hs hs' hl
  go_enter Tryd.func10, Tryd.ntmps10
  go_wp2_with fail
  go_loopw [13] (fun s13 wr => ∃ j : Nat, j ≤ ss.length ∧ s13 = .int .i64 j ∧ Hid (Below w.heap.size w wr)) (fun s13 _ => ss.length - (intOf s13).toNat)
  case atStart => exact ⟨0, Nat.zero_le _, rfl, hid (Below.refl _ w)⟩
  case round =>
    obtain ⟨j, hj, rfl, HB⟩ := hrel
    by_cases hlt : j < ss.length
    · obtain ⟨a, rfl, hal, hsa⟩ := (HS.out.next HB.out).at_ hlt
      obtain ⟨a', rfl, hal', hsa'⟩ := (HS'.out.next HB.out).at_ hlt
      have HA := hid hsa
      have HAL := hid hal
      have HA' := hid hsa'
      have HAL' := hid hal'
      clear hsa hal hsa' hal'
      generalize ss[j] = g at HA HA'
      have hj1 : (0:Int) ≤ (j:Int) := by omega
      have hj2 : (j:Int) < (ss.length:Int) := by omega
      have hdec : decide (g ≠ g) = false := by simp
      go_upto_region 6 with fail
      rename_i Kn hKn
      refine wp_region_fan 8 1000 (Over wr) (by kernel_rfl) (by kernel_rfl) (Over.start wr) ?_
      simp only [List.take_succ_cons, List.take_zero, List.drop_succ_cons, List.drop_zero]
      have LS := fun b w1 (h : Over wr b w1) => Over.seg HA.out (by rw [add_block]; exact HAL.out) h
      have LS' := fun b w1 (h : Over wr b w1) => Over.seg HA'.out (by rw [add_block]; exact HAL'.out) h
      refine WalksE.sound _ _ _ _ ?_ ((((((((((((((Is.start _ (n := 26) rfl).pin 0 (v := .slice (some a) ss.length c) rfl).pin 1 (v := .slice (some a') ss.length c') rfl).pin 2 (v := undef) rfl).pin 3 (v := undef) rfl).pin 5 (v := .int .i64 j) rfl).pin 6 (v := .slice (some a) ss.length c) rfl).pin 7 (v := .int .i64 ss.length) rfl).pin 8 (v := .slice (some a') ss.length c') rfl).pin 9 (v := .int .i64 ss.length) rfl).pin 10 (v := .bool false) rfl).pin 11 (v := .slice (some a) ss.length c) rfl).pin 12 (v := .int .i64 ss.length) rfl).pin 13 (v := .int .i64 j) rfl)
      generalize (fun i => Array.getD _ i undef) = g0
      refine walks_with fun KQ hKQ => ?_
      (refine walks_one fun K hK => ?_); refine st_pure rfl rfl (fun _ => rfl) ?_; refine hK _ ?_; clear hK K
      (refine walks_one fun K hK => ?_); refine st_pure rfl rfl (fun _ => rfl) ?_; refine hK _ ?_; clear hK K
      (refine walks_one fun K hK => ?_); refine st_pure rfl rfl (fun _ => run_index rfl rfl hj1 hj2) ?_; refine hK _ ?_; clear hK K
      (refine walks_one fun K hK => ?_); refine st_loadSeg LS rfl rfl rfl ?_; refine hK _ ?_; clear hK K
      (refine walks_one fun K hK => ?_); refine st_pure rfl rfl (fun _ => rfl) ?_; refine hK _ ?_; clear hK K
      (refine walks_one fun K hK => ?_); refine st_pure rfl rfl (fun _ => rfl) ?_; refine hK _ ?_; clear hK K
      (refine walks_one fun K hK => ?_); refine st_pure rfl rfl (fun _ => run_index rfl rfl hj1 hj2) ?_; refine hK _ ?_; clear hK K
      (refine walks_one fun K hK => ?_); refine st_loadSeg LS' rfl rfl rfl ?_; refine hK _ ?_; clear hK K
      refine walks_end fun a9 ha9 => hKQ _ fun w1 hC => ?_
      have e90 : a9.eval (Operand.tmp 19) = seg g := by rw [ha9.eval]; rfl
      have e91 : a9.eval (Operand.tmp 23) = seg g := by rw [ha9.eval]; rfl
      refine tailV rfl rfl ((run_neSeg e90 e91).trans (by rw [hdec])) ?_
      refine hKn _ _ ?_
      obtain ⟨g9, hg9, k0, k1, k2, k3, k5, k6, k7, k8, k9, k10, k11, k12, k13, k24⟩ : ∃ g9, Is (a9.put (some 24) (.bool false)) 26 g9 ∧ g9 0 = .slice (some a) ss.length c ∧ g9 1 = .slice (some a') ss.length c' ∧ g9 2 = undef ∧ g9 3 = undef ∧ g9 5 = .int .i64 j ∧ g9 6 = .slice (some a) ss.length c ∧ g9 7 = .int .i64 ss.length ∧ g9 8 = .slice (some a') ss.length c' ∧ g9 9 = .int .i64 ss.length ∧ g9 10 = .bool false ∧ g9 11 = .slice (some a) ss.length c ∧ g9 12 = .int .i64 ss.length ∧ g9 13 = .int .i64 j ∧ g9 24 = .bool false := ⟨_, ha9.put (d := 24) (by decide) _, rfl, rfl, rfl, rfl, rfl, rfl, rfl, rfl, rfl, rfl, rfl, rfl, rfl, rfl⟩
      have hw := hg9.whole
      rw [show ((List.range 26).map g9).toArray = #[g9 0, g9 1, g9 2, g9 3, g9 4, g9 5, g9 6, g9 7, g9 8, g9 9, g9 10, g9 11, g9 12, g9 13, g9 14, g9 15, g9 16, g9 17, g9 18, g9 19, g9 20, g9 21, g9 22, g9 23, g9 24, g9 25] from rfl] at hw
      rw [k0, k1, k2, k3, k5, k6, k7, k8, k9, k10, k11, k12, k13, k24] at hw
      rw [show (a9.put (some 24) _) = _ from hw]
      have HR := hid hC
      clear hw hC hg9 k0 k1 k2 k3 k5 k6 k7 k8 k9 k10 k11 k12 k13 k24 ha9 e90 e91 hKQ KQ hKn LS LS'
      have HB1 := hid (below_next HB.out HR.out)
      go_wp2_with fail
      go_roundw
      case rel => exact ⟨j + 1, by omega, by go_num, HB1⟩
      case measure => simp [intOf]; omega
    · go_wp2_with fail
      go_ret
      exact ⟨rfl, HB.out⟩

end Go.Proofs.YtijkoaggcmgjiabDoor
