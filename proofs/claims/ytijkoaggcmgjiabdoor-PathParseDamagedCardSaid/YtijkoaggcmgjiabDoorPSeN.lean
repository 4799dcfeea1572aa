/- What parseSeg of package path returns where no letter begins a segment; in general. -/
import Derived.Test.YtijkoaggcmgjiabDoorPSeg
namespace Go.Proofs.YtijkoaggcmgjiabDoor
open Go Go.RowKit Go.WideShapes
set_option linter.unusedVariables false
set_option linter.unusedSimpArgs false

theorem lit_ne {b c : ByteArray} {l : List UInt8} (h : b ≠ c) (e : c.toList = l) : (b.toList == l) = false := beq_eq_false_iff_ne.2 fun k => h (bytes_inj2 (k.trans e.symm))

set_option maxHeartbeats 1000000 in
set_option maxRecDepth 100000 in
theorem parseSeg_no (A : Option Addr) (bs : List ByteArray) (n c B0 : Nat) (w : World) (h0 : B0 ≤ w.heap.size) (b : ByteArray) (h1 : b ≠ ⟨#[109]⟩) (h2 : b ≠ ⟨#[108]⟩) (h3 : b ≠ ⟨#[113]⟩) (h4 : b ≠ ⟨#[104]⟩) (hn : n = bs.length + 1) (hc : n ≤ c ∧ c ≤ maxLen) (hs : Strs B0 w A (b :: bs)) :
    Calls Tryd.prog 16 #[.slice A n c] w fun e w' => PSeg B0 (b :: bs) e w' ∧ Below w.heap.size w w' := by
  obtain ⟨g, o, rfl, hg, hcell⟩ := hs (by simp)
  replace hg := Nat.lt_of_lt_of_le hg h0
  have hw0 := hcell 0 _ rfl
  rw [Nat.add_zero] at hw0
  obtain ⟨hc1, hc2⟩ := hc
  have HC2 := hid hc2
  have hc3 : (c : Int) ≤ 9223372036854775807 := by unfold maxLen at hc2; omega
  have HSW := hid (show segW (b :: bs) = none by rw [segW, if_neg h1, if_neg h2, if_neg h3, if_neg h4])
  clear hs hc2 hcell
  have k1 : (b.toList == [109]) = false := lit_ne h1 (toList_data _)
  have k2 : (b.toList == [108]) = false := lit_ne h2 (toList_data _)
  have k3 : (b.toList == [113]) = false := lit_ne h3 (toList_data _)
  have k4 : (b.toList == [104]) = false := lit_ne h4 (toList_data _)
  clear h1 h2 h3 h4
  go_enter Tryd.func16, Tryd.ntmps16
  go_upto_region 3 with fail
  have HB0 := hid (below_alloc (Below.refl _ w) (.cells (cel ⟨0, 0, 0, 0, 0, 0⟩) 38))
  have HV0 := hid (Var.new w (cel ⟨0, 0, 0, 0, 0, 0⟩) 38 _ rfl)
  clear hw0 hg
  generalize (if c = 1 then some (⟨g, o, none⟩ : Addr) else some ⟨g, o + 1, none⟩) = A1
  generalize w.alloc _ = w2 at HB0 HV0 ⊢
  obtain ⟨q0, q1, q2, q3, q4, q5, qf⟩ := HV0.out.read6
  go_wp2_with fail
  refine retSvv (s := ⟨0, 0, 0, 0, 0, 0⟩) Tryd.results16 rfl rfl rfl HV0.out.set6 ⟨?_, below_set6 HB0.out (Nat.le_refl _)⟩
  unfold PSeg
  rw [HSW.out]
  exact ⟨_, _, _, _, rfl⟩
theorem parseSeg_any (A : Option Addr) (bs : List ByteArray) (n c B0 : Nat) (w : World) (h0 : B0 ≤ w.heap.size) (hn : n = bs.length) (h1 : 1 ≤ n) (hc : n ≤ c ∧ c ≤ maxLen) (hs : Strs B0 w A bs) (hl : ∀ x ∈ bs, x.size ≤ 4294967295) (he : Env w) :
    Calls Tryd.prog 16 #[.slice A n c] w fun e w' => PSeg B0 bs e w' ∧ Below w.heap.size w w' := by
  cases bs with
  | nil => simp at hn; omega
  | cons b r =>
    have hl' : ∀ x ∈ r, x.size ≤ 4294967295 := fun x hx => hl x (by simp [hx])
    by_cases k1 : b = ⟨#[109]⟩
    · subst k1; exact parseSeg_m A r n c B0 w h0 hn hc hs hl' he
    by_cases k2 : b = ⟨#[108]⟩
    · subst k2; exact parseSeg_l A r n c B0 w h0 hn hc hs hl' he
    by_cases k3 : b = ⟨#[113]⟩
    · subst k3; exact parseSeg_q A r n c B0 w h0 hn hc hs hl' he
    by_cases k4 : b = ⟨#[104]⟩
    · subst k4; exact parseSeg_h A r n c B0 w h0 hn hc hs
    exact parseSeg_no A r n c B0 w h0 b k1 k2 k3 k4 hn hc hs

end Go.Proofs.YtijkoaggcmgjiabDoor
