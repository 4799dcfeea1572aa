/- Text of package path. -/
import Derived.Test.YtijkoaggcmgjiabDoorWText
namespace Go.Proofs.YtijkoaggcmgjiabDoor
open Go Go.RowKit
set_option linter.unusedVariables false

theorem infoString : (Tryd.prog.info? 9).map (fun i => (i.zero, i.size, i.bytes)) = some (some (.string ⟨#[]⟩), 1, 16) := by kernel_rfl
def outT (ss : List Sg) : List UInt8 := if chk ss = 0 then textOf ss else []

theorem text_bad (A : Option Addr) (ss : List Sg) (n c : Nat) (w : World) (hn : n = ss.length) (hs : n ≤ 1000 → Segs w A ss) (h : chk ss ≠ 0) :
    Calls Tryd.prog 12 #[.slice A n c] w fun e w' => e = .returned (.tuple #[.string ⟨#[]⟩, .int .i64 (chk ss)]) ∧ Below w.heap.size w w' := by
  have HS := hid hs
  have HN := hid hn
  have he : (chk ss != 0) = true := by simp [h]
  clear hs hn h
  go_enter Tryd.func12, Tryd.ntmps12
  go_wp2_with fail
  (with_reducible refine (check_any A ss n c _ HN.out HS.out).mono ?_); rintro e w1 ⟨rfl, hb⟩
  have HB := hid hb
  clear hb
  go_wp2_with fail
  go_ret2
  exact ⟨rfl, HB.out⟩

theorem own_next {w w' : World} {B e size n : Nat} {v : Value} {xs : List Value} (h : w.ownsRow B e size v n xs) (hb : Below w.heap.size w w') : w'.ownsRow B e size v n xs := by
  refine ⟨h.1, ?_⟩
  rcases h.2 with h0 | ⟨g, cap, cur, hv, hB, hg, r⟩
  · exact .inl h0
  · exact .inr ⟨g, cap, cur, hv, hB, (hb.block g (Array.getElem?_eq_some_iff.1 hg).1).trans hg, r⟩
def strs (ss : List Sg) : List Value := ss.map fun s => Value.string (segB s)
theorem strs_take (ss : List Sg) (j : Nat) (h : j < ss.length) : strs (ss.take (j + 1)) = strs (ss.take j) ++ [Value.string (segB ss[j])] := by
  unfold strs
  rw [List.take_succ_eq_append_getElem h, List.map_append]
  rfl

set_option maxHeartbeats 3200000 in
set_option maxRecDepth 100000 in
theorem text_good (A : Option Addr) (ss : List Sg) (n c : Nat) (w : World) (hn : n = ss.length) (hs : Segs w A ss) (h : chk ss = 0) (htab : Tab w) :
    Calls Tryd.prog 12 #[.slice A n c] w fun e w' => e = .returned (.tuple #[.string ⟨(textOf ss).toArray⟩, .int .i64 0]) ∧ Below w.heap.size w w' := by
  obtain ⟨i0, hi, hz0, hz1, hz2⟩ := info_parts infoString
  have HS := hid hs
  have HF := hid (show ∀ s ∈ ss, Fit s from fun s hs => (chk_okay h s hs).fit)
  have HT := hid htab
  have hle := chk_le h
  have HC := hid (check_any A ss n c w hn fun _ => hs)
  rw [h] at HC
  clear hs h htab
  subst hn
  go_enter Tryd.func12, Tryd.ntmps12
  go_wp2_with fail
  (with_reducible refine HC.out.mono ?_); rintro e w1 ⟨rfl, hb⟩
  have HB := hid hb
  clear hb HC
  go_wp2_with (at_make; refine wpList_make_own _ rfl _ _ 40 rfl w.heap.size 9 i0 (.string ⟨#[]⟩) 1 Tryd.underlying40 hi hz0 hz1 _ _ _ ss.length rfl rfl rfl (by rw [hz2]; omega) (by unfold maxLen; omega) HB.out.size ?_)
  intro w2 hown hgrow
  have HB2 := hid (HB.out.grown hgrow HB.out.size (fun k hk => by cases hk))
  have HO := hid hown
  clear hown hgrow
  go_wp2_with fail
  go_loopw [5, 18] (fun s5 s18 wr => ∃ j : Nat, j ≤ ss.length ∧ s18 = .int .i64 j ∧ Hid (wr.ownsRow w.heap.size 9 1 s5 j (strs (ss.take j))) ∧ Hid (Below w.heap.size w wr)) (fun _ s18 _ => ss.length - (intOf s18).toNat)
  case atStart => exact ⟨0, Nat.zero_le _, rfl, HO, HB2⟩
  case round =>
    obtain ⟨j, hj, rfl, HJ, HBJ⟩ := hrel
    by_cases hlt : j < ss.length
    · obtain ⟨a, rfl, hal, hsa⟩ := (HS.out.next HBJ.out).at_ hlt
      have HFJ := hid (HF.out ss[j] (List.getElem_mem hlt))
      have HW := hid (strs_take ss j hlt)
      generalize ss[j] = g at hsa HW HFJ
      obtain ⟨c0, c1, c2, c3, c4, c5⟩ := hsa
      have HV := hid (Var.new wr (cel g) 38 _ rfl)
      have HB3 := hid (HBJ.out.alloc HBJ.out.size (.cells (cel g) 38))
      have HJ3 := hid (HJ.out.alloc (.cells (cel g) 38))
      go_wp2_with fail
      (with_reducible refine (segText_any g _ HFJ.out (tab_next HT.out HB3.out)).mono ?_); rintro e w3 ⟨rfl, hb⟩
      clear c0 c1 c2 c3 c4 c5 HV
      have HB4 := hid (HB3.out.trans (hb.mono HB3.out.size))
      have HJ4 := hid ((own_next HJ3.out hb).alloc (.cells #[.string (segB g)] 9))
      have HB5 := hid (HB4.out.alloc HB4.out.size (.cells #[.string (segB g)] 9))
      clear hb HB3 HJ3 HB4
      go_wp2_with (at_builtin; refine wpList_append_own _ rfl _ _ 40 rfl w.heap.size 9 i0 (.string ⟨#[]⟩) 1 16 Tryd.underlying40 hi hz0 hz1 hz2 rfl (by decide) _ _ _ rfl HJ4.out ⟨w3.heap.size, 0, none⟩ 1 1 [.string (segB g)] rfl rfl (by intro j u' hj; match j, hj with | 0, hj => simp at hj; subst hj; simp [Addr.add]) (by intro u' hu'; simp at hu'; subst hu'; rfl) (by unfold maxLen; omega) (by omega) HB5.out.size ?_)
      intro v4 w4 hown hgrow _
      rw [← HW.out] at hown
      have H4 := hid hown
      have HB6 := hid (HB5.out.grown hgrow HB5.out.size (fun k hk => (HJ4.out.lt k hk).1))
      clear hown hgrow HJ4 HB5
      go_wp2_with fail
      go_roundw
      case rel => exact ⟨j + 1, by omega, by go_num, H4, HB6⟩
      case measure => simp [intOf]; omega
    · have hjl : j = ss.length := by omega
      subst hjl
      rw [List.take_length] at HJ
      have HLEN := hid (textOf_length ss HF.out)
      rcases HJ.out.2 with ⟨rfl, h0⟩ | ⟨g, cap, cur, rfl, hB, hg, hnc, hcm, hcs, htake⟩
      · have hnil : ss = [] := List.eq_nil_of_length_eq_zero h0
        subst hnil
        go_wp2_with (go_at_call 21; refine (Tryd.strings_Join_none _ _ _ _).mono ?_; rintro e w4 ⟨rfl, rfl⟩)
        go_ret2
        exact ⟨rfl, HBJ.out⟩
      · have HCE := hid (HJ.out.cells (g := g) rfl)
        have HG := hid (show g < wr.heap.size from (Array.getElem?_eq_some_iff.1 hg).1)
        have HJ2 := hid (Tryd.strings_Join g 0 cap (ss.map segB) ⟨#[32]⟩ wr (fun j x hx => by
            have := HCE.out j (.string x) (by
              unfold strs
              rw [List.getElem?_map] at hx ⊢
              cases h : ss[j]? with
              | none => rw [h] at hx; cases hx
              | some s => rw [h] at hx; simp only [Option.map_some] at hx ⊢; rw [Option.some.inj hx])
            rw [Nat.zero_add]
            rwa [show (⟨g, 0, none⟩ : Addr).add j = ⟨g, j, none⟩ by unfold Addr.add; split <;> simp_all] at this) HG.out (by rw [List.length_map]; omega) (by rw [List.length_map]; exact hnc)
          (by rw [List.map_map, show (fun x : ByteArray => x.data.toList) ∘ segB = segT from funext segB_list]; have := HLEN.out; unfold textOf at this; show (Lib.join (ss.map segT) [32]).length ≤ _; omega))
        rw [List.length_map, List.map_map, show (fun x : ByteArray => x.data.toList) ∘ segB = segT from funext segB_list, show Lib.join (ss.map segT) (⟨#[32]⟩ : ByteArray).data.toList = textOf ss from rfl] at HJ2
        clear hB hg hnc hcm hcs htake HJ HO HCE HG HLEN
        go_wp2_with (go_at_call 21; refine HJ2.out.mono ?_; rintro e w4 ⟨rfl, hb⟩)
        go_ret2
        exact ⟨rfl, HBJ.out.trans (hb.mono HBJ.out.size)⟩

theorem text_any (A : Option Addr) (ss : List Sg) (n c : Nat) (w : World) (hn : n = ss.length) (hs : n ≤ 1000 → Segs w A ss) (htab : Tab w) :
    Calls Tryd.prog 12 #[.slice A n c] w fun e w' => e = .returned (.tuple #[.string ⟨(outT ss).toArray⟩, .int .i64 (chk ss)]) ∧ Below w.heap.size w w' := by
  unfold outT
  by_cases h : chk ss = 0
  · rw [if_pos h, h]; exact text_good A ss n c w hn (hs (by have := chk_le h; omega)) h htab
  · rw [if_neg h]; exact text_bad A ss n c w hn hs h

end Go.Proofs.YtijkoaggcmgjiabDoor
