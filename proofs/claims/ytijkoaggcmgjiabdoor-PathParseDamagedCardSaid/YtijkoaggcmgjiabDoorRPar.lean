/- What the reference's PathParse returns. -/
import Derived.Test.YtijkoaggcmgjiabDoorSegB
import Derived.Test.YtijkoaggcmgjiabDoorReg28
import Derived.Test.YtijkoaggcmgjiabDoorRCheck
import Derived.BigRegion
namespace Go.Proofs.YtijkoaggcmgjiabDoor
open Go Go.RowKit
set_option linter.unusedVariables false
set_option linter.unusedSimpArgs false

/-- The block of five ints, so many of them set. -/
def blk (zs : List Int) : Array Value := ((zs ++ List.replicate (5 - zs.length) 0).map (Value.int .i64)).toArray
theorem blk_set {zs : List Int} (n : Int) (h : zs.length < 5) : (blk zs).setIfInBounds zs.length (.int .i64 n) = blk (zs ++ [n]) := by
  match zs, h with
  | [], _ => rfl
  | [a], _ => rfl
  | [a, b], _ => rfl
  | [a, b, c], _ => rfl
  | [a, b, c, d], _ => rfl
theorem blk_size {zs : List Int} (h : zs.length ≤ 5) : (blk zs).size = 5 := by
  unfold blk; simp; omega
theorem nums_step {l : List UInt8} {m a nx : Nat} {n : Int} (h : a < l.length) (hb : byteAt l a = 32) (hd : digS l (a + 1) = some (n, nx)) : numsR l (m + 1) a = (numsR l m nx).map fun p => (n :: p.1, p.2) := by
  rw [numsR, if_pos ⟨h, hb⟩, hd]
  show (match numsR l m nx with | none => none | some (zs, e) => some (n :: zs, e)) = _
  cases numsR l m nx <;> rfl
theorem nums_no {l : List UInt8} {m a : Nat} (h : ¬ (a < l.length ∧ byteAt l a = 32)) : numsR l (m + 1) a = none := by rw [numsR, if_neg h]
theorem nums_bad {l : List UInt8} {m a : Nat} (hd : digS l (a + 1) = none) : numsR l (m + 1) a = none := by
  rw [numsR]
  split
  · rw [hd]
  · rfl
theorem run_idxS (P : Program) (s : ByteArray) (i : Nat) (h : i < s.size) : ((s[i]'h).toNat : Int) = ((byteAt (dB s) i).toNat : Int) := by rw [getB s i h]

theorem par_end {l : List UInt8} {f a e : Nat} {g : Sg} (h : segR l a = some (g, e)) (he : e = l.length) : parR l (f + 1) a = some [g] := by rw [parR, h]; simp only; rw [if_pos he]
theorem par_bad {l : List UInt8} {f a e : Nat} {g : Sg} (h : segR l a = some (g, e)) (he : e ≠ l.length) (hb : byteAt l e ≠ 32 ∨ e + 1 = l.length) : parR l (f + 1) a = none := by rw [parR, h]; simp only; rw [if_neg he, if_pos hb]
theorem par_go {l : List UInt8} {f a e : Nat} {g : Sg} (h : segR l a = some (g, e)) (he : e ≠ l.length) (hb : ¬ (byteAt l e ≠ 32 ∨ e + 1 = l.length)) : parR l (f + 1) a = (parR l f (e + 1)).map (g :: ·) := by rw [parR, h]; simp only; rw [if_neg he, if_neg hb]
theorem blk_next {zs : List Int} (h : zs.length < 5) : (blk zs)[zs.length]? = some (.int .i64 0) := by
  match zs, h with
  | [], _ => rfl
  | [a], _ => rfl
  | [a, b], _ => rfl
  | [a, b, c], _ => rfl
  | [a, b, c, d], _ => rfl
theorem seg_none {l : List UInt8} {a : Nat} {kd : Int} {m : Nat} (h : letter (byteAt l a) = some (kd, m)) (hn : numsR l m (a + 1) = none) : segR l a = none := by unfold segR; rw [h]; simp only; rw [hn]
theorem seg_some {l : List UInt8} {a e : Nat} {kd : Int} {m : Nat} {zs : List Int} (h : letter (byteAt l a) = some (kd, m)) (hn : numsR l m (a + 1) = some (zs, e)) : segR l a = some (mkSeg kd zs, e) := by unfold segR; rw [h]; simp only; rw [hn]
theorem seg_bad {l : List UInt8} {a : Nat} (h : letter (byteAt l a) = none) : segR l a = none := by unfold segR; rw [h]
theorem par_none {l : List UInt8} {f a : Nat} (h : segR l a = none) : parR l (f + 1) a = none := by rw [parR, h]
theorem pE_none {s : ByteArray} (h : parseB s = none) : pE s = 5 ∧ pS s = [] := by unfold pE pS; rw [h]; exact ⟨rfl, rfl⟩

set_option maxHeartbeats 6400000 in
set_option maxRecDepth 100000 in
theorem rparse_some (s : ByteArray) (w : World) (hs0 : 0 < s.size) (hs : s.size ≤ 40000) :
    Calls Tryd.prog 9 #[.string s] w fun e w' => (∃ A n c, e = .returned (.tuple #[.slice A n c, .int .i64 (pE s)]) ∧ n = (pS s).length ∧ Segs w' A (pS s)) ∧ Below w.heap.size w w' := by
  have HP0 := hid (parseB_places s hs0)
  have HL := hid (show (dB s).length = s.size from sizeB s)
  go_enter Tryd.func9, Tryd.ntmps9
  go_wp2_with fail
  go_loopw [4, 5] (fun s4 s5 wr => ∃ (acc : List Sg) (at_ f n : Nat) (v : Value), s5 = .int .i64 at_ ∧ s4 = v ∧ at_ < s.size ∧ acc.length ≤ at_ ∧ n = acc.length ∧ Hid (parseB s = (parR (dB s) f at_).map (acc ++ ·)) ∧ Hid ((dB s).length + 1 ≤ f + at_) ∧ Hid (wr.ownsRow w.heap.size 38 6 v n (flat acc)) ∧ Hid (Below w.heap.size w wr)) (fun _ s5 _ => s.size - (intOf s5).toNat)
  case atStart => exact ⟨[], 0, (dB s).length + 1, 0, _, rfl, rfl, hs0, Nat.zero_le _, rfl, hid (by rw [HP0.out]; cases parR (dB s) ((dB s).length + 1) 0 <;> simp), hid (Nat.le_refl _), hid (own_nil' w w.heap.size), hid (Below.refl _ _)⟩
  case round =>
    obtain ⟨wo, rfl⟩ : ∃ wo, wo = wr := ⟨_, rfl⟩
    obtain ⟨acc, at_, f, n, v, rfl, rfl, hat, hacc, hn, HP, HF, HO, HB⟩ := hrel
    obtain ⟨Ap, cp, rfl, hpl, hsp⟩ := own_segs HO.out
    obtain ⟨f', rfl⟩ : ∃ f', f = f' + 1 := ⟨f - 1, by have := HF.out; have := HL.out; omega⟩
    have hg := getB s at_ hat
    have hal : (at_ : Int) < (s.size : Int) := by omega
    have ha0 : (0 : Int) ≤ (at_ : Int) := Int.natCast_nonneg _
    have hs1 : (0 : Int) < (s.size : Int) := by omega
    have hs2 : (s.size : Int) ≤ 40000 := by omega
    have hw1 : IntKind.i64.wrap ((at_ : Int) + 1) = ((at_ + 1 : Nat) : Int) := by rw [show ((at_ + 1 : Nat) : Int) = (at_ : Int) + 1 by omega]; exact IntWalk.i64_in _ (by omega)
    have HHG := hid hg
    have HHS := hid hs
    have HNA := hid hn
    clear hn hpl
    by_cases hch109 : byteAt (dB s) at_ = 109
    · have hch := hch109
      have HLT := hid (show letter (byteAt (dB s) at_) = some (1, 2) by rw [hch]; rfl)
      have e109 : (((s[at_]'hat).toNat : Int) == 109) = true := by rw [hg, show byteAt s.data.toList at_ = 109 from hch]; rfl
      clear hg hch hch109
      go_wp2_with fail
      go_loopw [5, 9] (fun s5 s9 wr => ∃ (k a1 : Nat) (zs : List Int), s5 = .int .i64 a1 ∧ s9 = .int .i64 k ∧ k ≤ 2 ∧ zs.length = k ∧ at_ < a1 ∧ a1 ≤ s.size ∧ Hid (numsR (dB s) 2 (at_ + 1) = (numsR (dB s) (2 - k) a1).map fun p => (zs ++ p.1, p.2)) ∧ Hid (Var wr wo.heap.size (cel ⟨1, 0, 0, 0, 0, 0⟩) 38) ∧ Hid (Var wr (wo.heap.size + 1) (blk zs) 44) ∧ Hid (Below wo.heap.size wo wr)) (fun _ s9 _ => 2 - (intOf s9).toNat)
      case atStart =>
        exact ⟨0, at_ + 1, [], by go_num, rfl, by omega, rfl, by omega, hat, hid (by show numsR (dB s) 2 (at_ + 1) = _; cases numsR (dB s) 2 (at_ + 1) <;> simp), hid ((Var.new wo _ _ _ rfl).alloc _), hid (Var.new _ _ _ _ (by simp)), hid (below_alloc (below_alloc (Below.refl _ wo) _) _)⟩
      case round =>
        obtain ⟨wx, rfl⟩ : ∃ wx, wx = wr := ⟨_, rfl⟩
        obtain ⟨k, a1, zs, rfl, rfl, hk, hz, hlo, hhi, HN, HV1, HV2, HBX⟩ := hrel
        have HB1 := hid (HB.out.trans (HBX.out.mono HB.out.size))
        clear hw1
        have HZ := hid hz
        have HS0 := hid hsp
        clear hsp hz
        have hk0 : (0 : Int) ≤ (k : Int) := Int.natCast_nonneg _
        have ha1 : (0 : Int) ≤ (a1 : Int) := Int.natCast_nonneg _
        have hw2 : IntKind.i64.wrap ((a1 : Int) + 1) = ((a1 + 1 : Nat) : Int) := by rw [show ((a1 + 1 : Nat) : Int) = (a1 : Int) + 1 by omega]; exact IntWalk.i64_in _ (by omega)
        by_cases hlt : k < 2
        · have hki : (k : Int) < 2 := by omega
          by_cases hsx : a1 < s.size ∧ byteAt (dB s) a1 = 32
          · obtain ⟨h1, h2⟩ := hsx
            have hai : (a1 : Int) < (s.size : Int) := by omega
            have e2 : (((s[a1]'h1).toNat : Int) != 32) = false := by rw [getB s a1 h1, show byteAt s.data.toList a1 = 32 from h2]; rfl
            have H2 := hid h2
            have hd0 := digits_any s (a1 + 1) wx (by omega) (by omega)
            rw [show ((a1 + 1 : Nat) : Int) = (a1 : Int) + 1 by omega] at hd0
            have HD := hid hd0
            clear h2 hd0
            go_wp2_with fail
            (with_reducible refine HD.out.mono ?_); rintro e w4 ⟨hd, rfl⟩
            unfold PDig at hd
            cases hq : digS s.data.toList (a1 + 1) with
            | none =>
              rw [hq] at hd
              obtain rfl : e = _ := hd
              have HPN := hid (show parseB s = none by rw [HP.out, par_none (seg_none HLT.out (by rw [HN.out, show 2 - k = (2 - k - 1) + 1 by omega, nums_bad hq]; rfl))]; rfl)
              have HE := hid (pE_none HPN.out)
              clear hq HD
              go_wp2_with fail
              go_ret2
              rw [HE.out.1, HE.out.2]
              exact ⟨⟨_, _, _, rfl, rfl, Segs.nil _ _⟩, HB1.out⟩
            | some p =>
              obtain ⟨nn, nx⟩ := p
              rw [hq] at hd
              obtain rfl : e = _ := hd
              obtain ⟨hn1, hn2⟩ := digS_le hq (by rw [sizeB]; omega)
              rw [sizeB] at hn2
              have HN2 := hid (show numsR (dB s) 2 (at_ + 1) = (numsR (dB s) (2 - (k + 1)) nx).map fun p => ((zs ++ [nn]) ++ p.1, p.2) by
                rw [HN.out, show 2 - k = (2 - (k + 1)) + 1 by omega, nums_step (by show a1 < s.data.toList.length; rw [sizeB]; exact h1) H2.out hq]
                cases numsR (dB s) (2 - (k + 1)) nx <;> simp)
              have HQ := hid hq
              have hnx : (0 : Int) ≤ (nx : Int) := Int.natCast_nonneg _
              have hnp : ¬ (nx : Int) < 0 := by omega
              have hk5 : (k : Int) < 5 := by omega
              obtain ⟨c0, cf⟩ : wx.cell? ⟨wo.heap.size + 1, k, none⟩ = some (.int .i64 0) ∧ wx.frozen? ⟨wo.heap.size + 1, k, none⟩ = false := by
                have hz := HZ.out
                subst hz
                exact ⟨(HV2.out.cell _).trans (blk_next (by omega)), HV2.out.free _⟩
              clear hq HD
              go_wp2_with fail
              go_roundw
              case rel => exact ⟨k + 1, nx, zs ++ [nn], rfl, by go_num, by omega, by have := HZ.out; simp; omega, by omega, hn2, HN2, hid (HV1.out.far (p := ⟨wo.heap.size + 1, k, none⟩) (by show wo.heap.size ≠ wo.heap.size + 1; omega) _), hid (by have hz := HZ.out; subst hz; exact blk_set (zs := zs) nn (by omega) ▸ HV2.out.set _), hid (HBX.out.setCell (p := ⟨wo.heap.size + 1, k, none⟩) (by show wo.heap.size ≤ wo.heap.size + 1; omega) _)⟩
              case measure => simp [intOf]; omega
          · have HPN := hid (show parseB s = none by rw [HP.out, par_none (seg_none HLT.out (by rw [HN.out, show 2 - k = (2 - k - 1) + 1 by omega, nums_no (fun h => hsx ⟨by have h1 : a1 < s.data.toList.length := h.1; rw [sizeB] at h1; exact h1, h.2⟩)]; rfl))]; rfl)
            have HE := hid (pE_none HPN.out)
            by_cases h1 : a1 < s.size
            · have hai : (a1 : Int) < (s.size : Int) := by omega
              have e2 : (((s[a1]'h1).toNat : Int) != 32) = true := by
                rw [getB s a1 h1]
                have h3 : byteAt (dB s) a1 ≠ 32 := fun h => hsx ⟨h1, h⟩
                have h4 : ((byteAt s.data.toList a1).toNat : Int) ≠ 32 := fun h => h3 (UInt8.toNat_inj.1 (by show (byteAt s.data.toList a1).toNat = 32; omega))
                simp [h4]
              clear hsx
              go_wp2_with fail
              go_ret2
              rw [HE.out.1, HE.out.2]
              exact ⟨⟨_, _, _, rfl, rfl, Segs.nil _ _⟩, HB1.out⟩
            · have hae : a1 = s.size := by omega
              subst hae
              clear hsx
              go_wp2_with fail
              go_ret2
              rw [HE.out.1, HE.out.2]
              exact ⟨⟨_, _, _, rfl, rfl, Segs.nil _ _⟩, HB1.out⟩
        · obtain rfl : k = 2 := by omega
          have HSG := hid (seg_some HLT.out (show numsR (dB s) 2 (at_ + 1) = some (zs, a1) by rw [HN.out]; simp [numsR]))
          have HOX := hid (own_next HO.out HBX.out)
          have hz := HZ.out
          obtain ⟨z0, z1, rfl⟩ : ∃ a b, zs = [a, b] := by
            match zs, hz with
            | [a, b], _ => exact ⟨a, b, rfl⟩
          clear hz
          obtain ⟨s0, s1, s2, s3, s4, s5, sf⟩ := HV1.out.read6
          have b0 : wx.cell? ⟨wo.heap.size + 1, 0, none⟩ = some (.int .i64 z0) := HV2.out.cell 0
          have b1 : wx.cell? ⟨wo.heap.size + 1, 1, none⟩ = some (.int .i64 z1) := HV2.out.cell 1
          have hne : wo.heap.size ≠ wo.heap.size + 1 := by omega
          go_upto_region 29 with fail
          rename_i Kx hKx
          clear HHG
          go_region
          refine hKx _ _ ?_
          have hnl : n ≤ 100000 := by have := HNA.out; omega
          have HV3 := hid (show Var (((wx.setCell ⟨wo.heap.size, 1, none⟩ (.int .i64 z0)).setCell ⟨wo.heap.size, 2, none⟩ (.int .i64 z1)).drew) wo.heap.size (cel ⟨1, z0, z1, 0, 0, 0⟩) 38 from ((HV1.out.set (i := 1) (.int .i64 z0)).set (i := 2) (.int .i64 z1)).drew)
          have HB3 := hid (show Below wo.heap.size wo (((wx.setCell ⟨wo.heap.size, 1, none⟩ (.int .i64 z0)).setCell ⟨wo.heap.size, 2, none⟩ (.int .i64 z1)).drew) from ((HBX.out.setCell (p := ⟨wo.heap.size, 1, none⟩) (Nat.le_refl _) _).setCell (p := ⟨wo.heap.size, 2, none⟩) (Nat.le_refl _) _).drew)
          generalize (((wx.setCell ⟨wo.heap.size, 1, none⟩ (.int .i64 z0)).setCell ⟨wo.heap.size, 2, none⟩ (.int .i64 z1)).drew) = W3 at HV3 HB3 ⊢
          clear hKx b0 b1 s0 s1 s2 s3 s4 s5 sf HBX HV1 HV2 HOX
          have HO3 := hid (own_next HO.out HB3.out)
          have H3L := hid (Nat.le_trans HB.out.size HB3.out.size)
          obtain ⟨q0, q1, q2, q3, q4, q5, qf⟩ := HV3.out.read6
          go_wp2_with (at_builtin; refine wpList_append_sg (xs := acc) (g := ⟨1, z0, z1, 0, 0, 0⟩) rfl _ _ rfl H3L.out rfl rfl HO3.out hnl ?_)
          intro v6 w6 hown hb
          obtain ⟨A6, c6, rfl, hl6, hs6⟩ := own_segs hown
          have HO6 := hid hown
          have HB6 := hid ((HB.out.trans (HB3.out.mono HB.out.size)).trans hb)
          have HS6 := hid hs6
          have HL6 := hid hl6
          clear hown hb hl6 hs6 q0 q1 q2 q3 q4 q5 qf HO3 HB3 HV3 H3L
          have HSG2 := hid (show segR (dB s) at_ = some (⟨1, z0, z1, 0, 0, 0⟩, a1) from HSG.out)
          by_cases hend : a1 = s.size
          · subst hend
            have HPA := hid (show parseB s = some (acc ++ [⟨1, z0, z1, 0, 0, 0⟩]) by rw [HP.out, par_end HSG2.out (sizeB s).symm]; rfl)
            have HC := hid (rcheck_any A6 (acc ++ [⟨1, z0, z1, 0, 0, 0⟩]) (n + 1) c6 w6 HL6.out (fun _ => HS6.out))
            by_cases hc : chk (acc ++ [⟨1, z0, z1, 0, 0, 0⟩]) = 0
            · have HE1 := hid (show pE s = 0 by unfold pE; rw [HPA.out]; exact hc)
              have HE2 := hid (show pS s = acc ++ [⟨1, z0, z1, 0, 0, 0⟩] by unfold pS; rw [HPA.out]; simp only; rw [if_pos hc])
              rw [hc] at HC
              clear hc
              go_wp2_with fail
              (with_reducible refine HC.out.mono ?_); rintro e w7 ⟨rfl, hb⟩
              have HBX := hid (below_next HB6.out hb)
              have HSX := hid (HS6.out.next hb)
              clear hb
              go_wp2_with fail
              go_ret2
              rw [HE1.out, HE2.out]
              exact ⟨⟨_, _, _, rfl, HL6.out, HSX.out⟩, HBX.out⟩
            · have HE1 := hid (show pE s = chk (acc ++ [⟨1, z0, z1, 0, 0, 0⟩]) by unfold pE; rw [HPA.out])
              have HE2 := hid (show pS s = [] by unfold pS; rw [HPA.out]; simp only; rw [if_neg hc])
              have hkn : (chk (acc ++ [⟨1, z0, z1, 0, 0, 0⟩]) != 0) = true := by simp [hc]
              clear hc
              generalize chk (acc ++ [⟨1, z0, z1, 0, 0, 0⟩]) = r at HC HE1 hkn
              go_wp2_with fail
              (with_reducible refine HC.out.mono ?_); rintro e w7 ⟨rfl, hb⟩
              have HBX := hid (below_next HB6.out hb)
              clear hb
              go_wp2_with fail
              go_ret2
              rw [HE1.out, HE2.out]
              exact ⟨⟨_, _, _, rfl, rfl, Segs.nil _ _⟩, HBX.out⟩
          · have hlt6 : a1 < s.size := by omega
            have hai : (a1 : Int) < (s.size : Int) := by omega
            have haf : ((a1 : Int) == (s.size : Int)) = false := by simp; omega
            have hend2 : a1 ≠ s.data.toList.length := by rw [sizeB]; exact hend
            by_cases hx : byteAt (dB s) a1 ≠ 32
            · have HPN := hid (show parseB s = none by rw [HP.out, par_bad HSG2.out hend2 (.inl hx)]; rfl)
              have HE := hid (pE_none HPN.out)
              have e3 : (((s[a1]'hlt6).toNat : Int) != 32) = true := by
                rw [getB s a1 hlt6]
                have h4 : ((byteAt s.data.toList a1).toNat : Int) ≠ 32 := fun h => hx (UInt8.toNat_inj.1 (by show (byteAt s.data.toList a1).toNat = 32; omega))
                simp [h4]
              clear hx hend hend2
              go_wp2_with fail
              go_ret2
              rw [HE.out.1, HE.out.2]
              exact ⟨⟨_, _, _, rfl, rfl, Segs.nil _ _⟩, HB6.out⟩
            · have hx : byteAt (dB s) a1 = 32 := Decidable.not_not.1 hx
              have e3 : (((s[a1]'hlt6).toNat : Int) != 32) = false := by rw [getB s a1 hlt6, show byteAt s.data.toList a1 = 32 from hx]; rfl
              by_cases hl1 : a1 + 1 = s.size
              · have HPN := hid (show parseB s = none by rw [HP.out, par_bad HSG2.out hend2 (.inr (by rw [sizeB]; exact hl1))]; rfl)
                have HE := hid (pE_none HPN.out)
                have e4 : (((a1 : Int) + 1) == (s.size : Int)) = true := by simp; omega
                clear hx hend hend2 hl1
                go_wp2_with fail
                go_ret2
                rw [HE.out.1, HE.out.2]
                exact ⟨⟨_, _, _, rfl, rfl, Segs.nil _ _⟩, HB6.out⟩
              · have e4 : (((a1 : Int) + 1) == (s.size : Int)) = false := by simp; omega
                have HP2 := hid (show parseB s = (parR (dB s) f' (a1 + 1)).map ((acc ++ [⟨1, z0, z1, 0, 0, 0⟩]) ++ ·) by
                  rw [HP.out, par_go HSG2.out hend2 (fun h => h.elim (fun h => h hx) (fun h => hl1 (by rw [sizeB] at h; exact h)))]
                  cases parR (dB s) f' (a1 + 1) <;> simp)
                clear hx hend hend2
                go_wp2_with fail
                go_roundw
                case rel => exact ⟨acc ++ [⟨1, z0, z1, 0, 0, 0⟩], a1 + 1, f', n + 1, _, by go_num, rfl, by omega, by simp; omega, by have := HNA.out; simp; omega, HP2, hid (by have := HF.out; omega), HO6, HB6⟩
                case measure => simp [intOf]; omega
    · skip
      by_cases hch108 : byteAt (dB s) at_ = 108
      · have hch := hch108
        have HLT := hid (show letter (byteAt (dB s) at_) = some (2, 2) by rw [hch]; rfl)
        have e109 : (((s[at_]'hat).toNat : Int) == 109) = false := by rw [hg, show byteAt s.data.toList at_ = 108 from hch]; rfl
        have e108 : (((s[at_]'hat).toNat : Int) == 108) = true := by rw [hg, show byteAt s.data.toList at_ = 108 from hch]; rfl
        clear hg hch hch109 hch108
        go_wp2_with fail
        go_loopw [5, 9] (fun s5 s9 wr => ∃ (k a1 : Nat) (zs : List Int), s5 = .int .i64 a1 ∧ s9 = .int .i64 k ∧ k ≤ 2 ∧ zs.length = k ∧ at_ < a1 ∧ a1 ≤ s.size ∧ Hid (numsR (dB s) 2 (at_ + 1) = (numsR (dB s) (2 - k) a1).map fun p => (zs ++ p.1, p.2)) ∧ Hid (Var wr wo.heap.size (cel ⟨2, 0, 0, 0, 0, 0⟩) 38) ∧ Hid (Var wr (wo.heap.size + 1) (blk zs) 44) ∧ Hid (Below wo.heap.size wo wr)) (fun _ s9 _ => 2 - (intOf s9).toNat)
        case atStart =>
          exact ⟨0, at_ + 1, [], by go_num, rfl, by omega, rfl, by omega, hat, hid (by show numsR (dB s) 2 (at_ + 1) = _; cases numsR (dB s) 2 (at_ + 1) <;> simp), hid ((Var.new wo _ _ _ rfl).alloc _), hid (Var.new _ _ _ _ (by simp)), hid (below_alloc (below_alloc (Below.refl _ wo) _) _)⟩
        case round =>
          obtain ⟨wx, rfl⟩ : ∃ wx, wx = wr := ⟨_, rfl⟩
          obtain ⟨k, a1, zs, rfl, rfl, hk, hz, hlo, hhi, HN, HV1, HV2, HBX⟩ := hrel
          have HB1 := hid (HB.out.trans (HBX.out.mono HB.out.size))
          clear hw1
          have HZ := hid hz
          have HS0 := hid hsp
          clear hsp hz
          have hk0 : (0 : Int) ≤ (k : Int) := Int.natCast_nonneg _
          have ha1 : (0 : Int) ≤ (a1 : Int) := Int.natCast_nonneg _
          have hw2 : IntKind.i64.wrap ((a1 : Int) + 1) = ((a1 + 1 : Nat) : Int) := by rw [show ((a1 + 1 : Nat) : Int) = (a1 : Int) + 1 by omega]; exact IntWalk.i64_in _ (by omega)
          by_cases hlt : k < 2
          · have hki : (k : Int) < 2 := by omega
            by_cases hsx : a1 < s.size ∧ byteAt (dB s) a1 = 32
            · obtain ⟨h1, h2⟩ := hsx
              have hai : (a1 : Int) < (s.size : Int) := by omega
              have e2 : (((s[a1]'h1).toNat : Int) != 32) = false := by rw [getB s a1 h1, show byteAt s.data.toList a1 = 32 from h2]; rfl
              have H2 := hid h2
              have hd0 := digits_any s (a1 + 1) wx (by omega) (by omega)
              rw [show ((a1 + 1 : Nat) : Int) = (a1 : Int) + 1 by omega] at hd0
              have HD := hid hd0
              clear h2 hd0
              go_wp2_with fail
              (with_reducible refine HD.out.mono ?_); rintro e w4 ⟨hd, rfl⟩
              unfold PDig at hd
              cases hq : digS s.data.toList (a1 + 1) with
              | none =>
                rw [hq] at hd
                obtain rfl : e = _ := hd
                have HPN := hid (show parseB s = none by rw [HP.out, par_none (seg_none HLT.out (by rw [HN.out, show 2 - k = (2 - k - 1) + 1 by omega, nums_bad hq]; rfl))]; rfl)
                have HE := hid (pE_none HPN.out)
                clear hq HD
                go_wp2_with fail
                go_ret2
                rw [HE.out.1, HE.out.2]
                exact ⟨⟨_, _, _, rfl, rfl, Segs.nil _ _⟩, HB1.out⟩
              | some p =>
                obtain ⟨nn, nx⟩ := p
                rw [hq] at hd
                obtain rfl : e = _ := hd
                obtain ⟨hn1, hn2⟩ := digS_le hq (by rw [sizeB]; omega)
                rw [sizeB] at hn2
                have HN2 := hid (show numsR (dB s) 2 (at_ + 1) = (numsR (dB s) (2 - (k + 1)) nx).map fun p => ((zs ++ [nn]) ++ p.1, p.2) by
                  rw [HN.out, show 2 - k = (2 - (k + 1)) + 1 by omega, nums_step (by show a1 < s.data.toList.length; rw [sizeB]; exact h1) H2.out hq]
                  cases numsR (dB s) (2 - (k + 1)) nx <;> simp)
                have HQ := hid hq
                have hnx : (0 : Int) ≤ (nx : Int) := Int.natCast_nonneg _
                have hnp : ¬ (nx : Int) < 0 := by omega
                have hk5 : (k : Int) < 5 := by omega
                obtain ⟨c0, cf⟩ : wx.cell? ⟨wo.heap.size + 1, k, none⟩ = some (.int .i64 0) ∧ wx.frozen? ⟨wo.heap.size + 1, k, none⟩ = false := by
                  have hz := HZ.out
                  subst hz
                  exact ⟨(HV2.out.cell _).trans (blk_next (by omega)), HV2.out.free _⟩
                clear hq HD
                go_wp2_with fail
                go_roundw
                case rel => exact ⟨k + 1, nx, zs ++ [nn], rfl, by go_num, by omega, by have := HZ.out; simp; omega, by omega, hn2, HN2, hid (HV1.out.far (p := ⟨wo.heap.size + 1, k, none⟩) (by show wo.heap.size ≠ wo.heap.size + 1; omega) _), hid (by have hz := HZ.out; subst hz; exact blk_set (zs := zs) nn (by omega) ▸ HV2.out.set _), hid (HBX.out.setCell (p := ⟨wo.heap.size + 1, k, none⟩) (by show wo.heap.size ≤ wo.heap.size + 1; omega) _)⟩
                case measure => simp [intOf]; omega
            · have HPN := hid (show parseB s = none by rw [HP.out, par_none (seg_none HLT.out (by rw [HN.out, show 2 - k = (2 - k - 1) + 1 by omega, nums_no (fun h => hsx ⟨by have h1 : a1 < s.data.toList.length := h.1; rw [sizeB] at h1; exact h1, h.2⟩)]; rfl))]; rfl)
              have HE := hid (pE_none HPN.out)
              by_cases h1 : a1 < s.size
              · have hai : (a1 : Int) < (s.size : Int) := by omega
                have e2 : (((s[a1]'h1).toNat : Int) != 32) = true := by
                  rw [getB s a1 h1]
                  have h3 : byteAt (dB s) a1 ≠ 32 := fun h => hsx ⟨h1, h⟩
                  have h4 : ((byteAt s.data.toList a1).toNat : Int) ≠ 32 := fun h => h3 (UInt8.toNat_inj.1 (by show (byteAt s.data.toList a1).toNat = 32; omega))
                  simp [h4]
                clear hsx
                go_wp2_with fail
                go_ret2
                rw [HE.out.1, HE.out.2]
                exact ⟨⟨_, _, _, rfl, rfl, Segs.nil _ _⟩, HB1.out⟩
              · have hae : a1 = s.size := by omega
                subst hae
                clear hsx
                go_wp2_with fail
                go_ret2
                rw [HE.out.1, HE.out.2]
                exact ⟨⟨_, _, _, rfl, rfl, Segs.nil _ _⟩, HB1.out⟩
          · obtain rfl : k = 2 := by omega
            have HSG := hid (seg_some HLT.out (show numsR (dB s) 2 (at_ + 1) = some (zs, a1) by rw [HN.out]; simp [numsR]))
            have HOX := hid (own_next HO.out HBX.out)
            have hz := HZ.out
            obtain ⟨z0, z1, rfl⟩ : ∃ a b, zs = [a, b] := by
              match zs, hz with
              | [a, b], _ => exact ⟨a, b, rfl⟩
            clear hz
            obtain ⟨s0, s1, s2, s3, s4, s5, sf⟩ := HV1.out.read6
            have b0 : wx.cell? ⟨wo.heap.size + 1, 0, none⟩ = some (.int .i64 z0) := HV2.out.cell 0
            have b1 : wx.cell? ⟨wo.heap.size + 1, 1, none⟩ = some (.int .i64 z1) := HV2.out.cell 1
            have hne : wo.heap.size ≠ wo.heap.size + 1 := by omega
            go_upto_region 29 with fail
            rename_i Kx hKx
            clear HHG
            go_region
            refine hKx _ _ ?_
            have hnl : n ≤ 100000 := by have := HNA.out; omega
            have HV3 := hid (show Var (((wx.setCell ⟨wo.heap.size, 1, none⟩ (.int .i64 z0)).setCell ⟨wo.heap.size, 2, none⟩ (.int .i64 z1)).drew) wo.heap.size (cel ⟨2, z0, z1, 0, 0, 0⟩) 38 from ((HV1.out.set (i := 1) (.int .i64 z0)).set (i := 2) (.int .i64 z1)).drew)
            have HB3 := hid (show Below wo.heap.size wo (((wx.setCell ⟨wo.heap.size, 1, none⟩ (.int .i64 z0)).setCell ⟨wo.heap.size, 2, none⟩ (.int .i64 z1)).drew) from ((HBX.out.setCell (p := ⟨wo.heap.size, 1, none⟩) (Nat.le_refl _) _).setCell (p := ⟨wo.heap.size, 2, none⟩) (Nat.le_refl _) _).drew)
            generalize (((wx.setCell ⟨wo.heap.size, 1, none⟩ (.int .i64 z0)).setCell ⟨wo.heap.size, 2, none⟩ (.int .i64 z1)).drew) = W3 at HV3 HB3 ⊢
            clear hKx b0 b1 s0 s1 s2 s3 s4 s5 sf HBX HV1 HV2 HOX
            have HO3 := hid (own_next HO.out HB3.out)
            have H3L := hid (Nat.le_trans HB.out.size HB3.out.size)
            obtain ⟨q0, q1, q2, q3, q4, q5, qf⟩ := HV3.out.read6
            go_wp2_with (at_builtin; refine wpList_append_sg (xs := acc) (g := ⟨2, z0, z1, 0, 0, 0⟩) rfl _ _ rfl H3L.out rfl rfl HO3.out hnl ?_)
            intro v6 w6 hown hb
            obtain ⟨A6, c6, rfl, hl6, hs6⟩ := own_segs hown
            have HO6 := hid hown
            have HB6 := hid ((HB.out.trans (HB3.out.mono HB.out.size)).trans hb)
            have HS6 := hid hs6
            have HL6 := hid hl6
            clear hown hb hl6 hs6 q0 q1 q2 q3 q4 q5 qf HO3 HB3 HV3 H3L
            have HSG2 := hid (show segR (dB s) at_ = some (⟨2, z0, z1, 0, 0, 0⟩, a1) from HSG.out)
            by_cases hend : a1 = s.size
            · subst hend
              have HPA := hid (show parseB s = some (acc ++ [⟨2, z0, z1, 0, 0, 0⟩]) by rw [HP.out, par_end HSG2.out (sizeB s).symm]; rfl)
              have HC := hid (rcheck_any A6 (acc ++ [⟨2, z0, z1, 0, 0, 0⟩]) (n + 1) c6 w6 HL6.out (fun _ => HS6.out))
              by_cases hc : chk (acc ++ [⟨2, z0, z1, 0, 0, 0⟩]) = 0
              · have HE1 := hid (show pE s = 0 by unfold pE; rw [HPA.out]; exact hc)
                have HE2 := hid (show pS s = acc ++ [⟨2, z0, z1, 0, 0, 0⟩] by unfold pS; rw [HPA.out]; simp only; rw [if_pos hc])
                rw [hc] at HC
                clear hc
                go_wp2_with fail
                (with_reducible refine HC.out.mono ?_); rintro e w7 ⟨rfl, hb⟩
                have HBX := hid (below_next HB6.out hb)
                have HSX := hid (HS6.out.next hb)
                clear hb
                go_wp2_with fail
                go_ret2
                rw [HE1.out, HE2.out]
                exact ⟨⟨_, _, _, rfl, HL6.out, HSX.out⟩, HBX.out⟩
              · have HE1 := hid (show pE s = chk (acc ++ [⟨2, z0, z1, 0, 0, 0⟩]) by unfold pE; rw [HPA.out])
                have HE2 := hid (show pS s = [] by unfold pS; rw [HPA.out]; simp only; rw [if_neg hc])
                have hkn : (chk (acc ++ [⟨2, z0, z1, 0, 0, 0⟩]) != 0) = true := by simp [hc]
                clear hc
                generalize chk (acc ++ [⟨2, z0, z1, 0, 0, 0⟩]) = r at HC HE1 hkn
                go_wp2_with fail
                (with_reducible refine HC.out.mono ?_); rintro e w7 ⟨rfl, hb⟩
                have HBX := hid (below_next HB6.out hb)
                clear hb
                go_wp2_with fail
                go_ret2
                rw [HE1.out, HE2.out]
                exact ⟨⟨_, _, _, rfl, rfl, Segs.nil _ _⟩, HBX.out⟩
            · have hlt6 : a1 < s.size := by omega
              have hai : (a1 : Int) < (s.size : Int) := by omega
              have haf : ((a1 : Int) == (s.size : Int)) = false := by simp; omega
              have hend2 : a1 ≠ s.data.toList.length := by rw [sizeB]; exact hend
              by_cases hx : byteAt (dB s) a1 ≠ 32
              · have HPN := hid (show parseB s = none by rw [HP.out, par_bad HSG2.out hend2 (.inl hx)]; rfl)
                have HE := hid (pE_none HPN.out)
                have e3 : (((s[a1]'hlt6).toNat : Int) != 32) = true := by
                  rw [getB s a1 hlt6]
                  have h4 : ((byteAt s.data.toList a1).toNat : Int) ≠ 32 := fun h => hx (UInt8.toNat_inj.1 (by show (byteAt s.data.toList a1).toNat = 32; omega))
                  simp [h4]
                clear hx hend hend2
                go_wp2_with fail
                go_ret2
                rw [HE.out.1, HE.out.2]
                exact ⟨⟨_, _, _, rfl, rfl, Segs.nil _ _⟩, HB6.out⟩
              · have hx : byteAt (dB s) a1 = 32 := Decidable.not_not.1 hx
                have e3 : (((s[a1]'hlt6).toNat : Int) != 32) = false := by rw [getB s a1 hlt6, show byteAt s.data.toList a1 = 32 from hx]; rfl
                by_cases hl1 : a1 + 1 = s.size
                · have HPN := hid (show parseB s = none by rw [HP.out, par_bad HSG2.out hend2 (.inr (by rw [sizeB]; exact hl1))]; rfl)
                  have HE := hid (pE_none HPN.out)
                  have e4 : (((a1 : Int) + 1) == (s.size : Int)) = true := by simp; omega
                  clear hx hend hend2 hl1
                  go_wp2_with fail
                  go_ret2
                  rw [HE.out.1, HE.out.2]
                  exact ⟨⟨_, _, _, rfl, rfl, Segs.nil _ _⟩, HB6.out⟩
                · have e4 : (((a1 : Int) + 1) == (s.size : Int)) = false := by simp; omega
                  have HP2 := hid (show parseB s = (parR (dB s) f' (a1 + 1)).map ((acc ++ [⟨2, z0, z1, 0, 0, 0⟩]) ++ ·) by
                    rw [HP.out, par_go HSG2.out hend2 (fun h => h.elim (fun h => h hx) (fun h => hl1 (by rw [sizeB] at h; exact h)))]
                    cases parR (dB s) f' (a1 + 1) <;> simp)
                  clear hx hend hend2
                  go_wp2_with fail
                  go_roundw
                  case rel => exact ⟨acc ++ [⟨2, z0, z1, 0, 0, 0⟩], a1 + 1, f', n + 1, _, by go_num, rfl, by omega, by simp; omega, by have := HNA.out; simp; omega, HP2, hid (by have := HF.out; omega), HO6, HB6⟩
                  case measure => simp [intOf]; omega
      · skip
        by_cases hch113 : byteAt (dB s) at_ = 113
        · have hch := hch113
          have HLT := hid (show letter (byteAt (dB s) at_) = some (3, 5) by rw [hch]; rfl)
          have e109 : (((s[at_]'hat).toNat : Int) == 109) = false := by rw [hg, show byteAt s.data.toList at_ = 113 from hch]; rfl
          have e108 : (((s[at_]'hat).toNat : Int) == 108) = false := by rw [hg, show byteAt s.data.toList at_ = 113 from hch]; rfl
          have e113 : (((s[at_]'hat).toNat : Int) == 113) = true := by rw [hg, show byteAt s.data.toList at_ = 113 from hch]; rfl
          clear hg hch hch109 hch108 hch113
          go_wp2_with fail
          go_loopw [5, 9] (fun s5 s9 wr => ∃ (k a1 : Nat) (zs : List Int), s5 = .int .i64 a1 ∧ s9 = .int .i64 k ∧ k ≤ 5 ∧ zs.length = k ∧ at_ < a1 ∧ a1 ≤ s.size ∧ Hid (numsR (dB s) 5 (at_ + 1) = (numsR (dB s) (5 - k) a1).map fun p => (zs ++ p.1, p.2)) ∧ Hid (Var wr wo.heap.size (cel ⟨3, 0, 0, 0, 0, 0⟩) 38) ∧ Hid (Var wr (wo.heap.size + 1) (blk zs) 44) ∧ Hid (Below wo.heap.size wo wr)) (fun _ s9 _ => 5 - (intOf s9).toNat)
          case atStart =>
            exact ⟨0, at_ + 1, [], by go_num, rfl, by omega, rfl, by omega, hat, hid (by show numsR (dB s) 5 (at_ + 1) = _; cases numsR (dB s) 5 (at_ + 1) <;> simp), hid ((Var.new wo _ _ _ rfl).alloc _), hid (Var.new _ _ _ _ (by simp)), hid (below_alloc (below_alloc (Below.refl _ wo) _) _)⟩
          case round =>
            obtain ⟨wx, rfl⟩ : ∃ wx, wx = wr := ⟨_, rfl⟩
            obtain ⟨k, a1, zs, rfl, rfl, hk, hz, hlo, hhi, HN, HV1, HV2, HBX⟩ := hrel
            have HB1 := hid (HB.out.trans (HBX.out.mono HB.out.size))
            clear hw1
            have HZ := hid hz
            have HS0 := hid hsp
            clear hsp hz
            have hk0 : (0 : Int) ≤ (k : Int) := Int.natCast_nonneg _
            have ha1 : (0 : Int) ≤ (a1 : Int) := Int.natCast_nonneg _
            have hw2 : IntKind.i64.wrap ((a1 : Int) + 1) = ((a1 + 1 : Nat) : Int) := by rw [show ((a1 + 1 : Nat) : Int) = (a1 : Int) + 1 by omega]; exact IntWalk.i64_in _ (by omega)
            by_cases hlt : k < 5
            · have hki : (k : Int) < 5 := by omega
              by_cases hsx : a1 < s.size ∧ byteAt (dB s) a1 = 32
              · obtain ⟨h1, h2⟩ := hsx
                have hai : (a1 : Int) < (s.size : Int) := by omega
                have e2 : (((s[a1]'h1).toNat : Int) != 32) = false := by rw [getB s a1 h1, show byteAt s.data.toList a1 = 32 from h2]; rfl
                have H2 := hid h2
                have hd0 := digits_any s (a1 + 1) wx (by omega) (by omega)
                rw [show ((a1 + 1 : Nat) : Int) = (a1 : Int) + 1 by omega] at hd0
                have HD := hid hd0
                clear h2 hd0
                go_wp2_with fail
                (with_reducible refine HD.out.mono ?_); rintro e w4 ⟨hd, rfl⟩
                unfold PDig at hd
                cases hq : digS s.data.toList (a1 + 1) with
                | none =>
                  rw [hq] at hd
                  obtain rfl : e = _ := hd
                  have HPN := hid (show parseB s = none by rw [HP.out, par_none (seg_none HLT.out (by rw [HN.out, show 5 - k = (5 - k - 1) + 1 by omega, nums_bad hq]; rfl))]; rfl)
                  have HE := hid (pE_none HPN.out)
                  clear hq HD
                  go_wp2_with fail
                  go_ret2
                  rw [HE.out.1, HE.out.2]
                  exact ⟨⟨_, _, _, rfl, rfl, Segs.nil _ _⟩, HB1.out⟩
                | some p =>
                  obtain ⟨nn, nx⟩ := p
                  rw [hq] at hd
                  obtain rfl : e = _ := hd
                  obtain ⟨hn1, hn2⟩ := digS_le hq (by rw [sizeB]; omega)
                  rw [sizeB] at hn2
                  have HN2 := hid (show numsR (dB s) 5 (at_ + 1) = (numsR (dB s) (5 - (k + 1)) nx).map fun p => ((zs ++ [nn]) ++ p.1, p.2) by
                    rw [HN.out, show 5 - k = (5 - (k + 1)) + 1 by omega, nums_step (by show a1 < s.data.toList.length; rw [sizeB]; exact h1) H2.out hq]
                    cases numsR (dB s) (5 - (k + 1)) nx <;> simp)
                  have HQ := hid hq
                  have hnx : (0 : Int) ≤ (nx : Int) := Int.natCast_nonneg _
                  have hnp : ¬ (nx : Int) < 0 := by omega
                  have hk5 : (k : Int) < 5 := by omega
                  obtain ⟨c0, cf⟩ : wx.cell? ⟨wo.heap.size + 1, k, none⟩ = some (.int .i64 0) ∧ wx.frozen? ⟨wo.heap.size + 1, k, none⟩ = false := by
                    have hz := HZ.out
                    subst hz
                    exact ⟨(HV2.out.cell _).trans (blk_next (by omega)), HV2.out.free _⟩
                  clear hq HD
                  go_wp2_with fail
                  go_roundw
                  case rel => exact ⟨k + 1, nx, zs ++ [nn], rfl, by go_num, by omega, by have := HZ.out; simp; omega, by omega, hn2, HN2, hid (HV1.out.far (p := ⟨wo.heap.size + 1, k, none⟩) (by show wo.heap.size ≠ wo.heap.size + 1; omega) _), hid (by have hz := HZ.out; subst hz; exact blk_set (zs := zs) nn (by omega) ▸ HV2.out.set _), hid (HBX.out.setCell (p := ⟨wo.heap.size + 1, k, none⟩) (by show wo.heap.size ≤ wo.heap.size + 1; omega) _)⟩
                  case measure => simp [intOf]; omega
              · have HPN := hid (show parseB s = none by rw [HP.out, par_none (seg_none HLT.out (by rw [HN.out, show 5 - k = (5 - k - 1) + 1 by omega, nums_no (fun h => hsx ⟨by have h1 : a1 < s.data.toList.length := h.1; rw [sizeB] at h1; exact h1, h.2⟩)]; rfl))]; rfl)
                have HE := hid (pE_none HPN.out)
                by_cases h1 : a1 < s.size
                · have hai : (a1 : Int) < (s.size : Int) := by omega
                  have e2 : (((s[a1]'h1).toNat : Int) != 32) = true := by
                    rw [getB s a1 h1]
                    have h3 : byteAt (dB s) a1 ≠ 32 := fun h => hsx ⟨h1, h⟩
                    have h4 : ((byteAt s.data.toList a1).toNat : Int) ≠ 32 := fun h => h3 (UInt8.toNat_inj.1 (by show (byteAt s.data.toList a1).toNat = 32; omega))
                    simp [h4]
                  clear hsx
                  go_wp2_with fail
                  go_ret2
                  rw [HE.out.1, HE.out.2]
                  exact ⟨⟨_, _, _, rfl, rfl, Segs.nil _ _⟩, HB1.out⟩
                · have hae : a1 = s.size := by omega
                  subst hae
                  clear hsx
                  go_wp2_with fail
                  go_ret2
                  rw [HE.out.1, HE.out.2]
                  exact ⟨⟨_, _, _, rfl, rfl, Segs.nil _ _⟩, HB1.out⟩
            · obtain rfl : k = 5 := by omega
              have HSG := hid (seg_some HLT.out (show numsR (dB s) 5 (at_ + 1) = some (zs, a1) by rw [HN.out]; simp [numsR]))
              have HOX := hid (own_next HO.out HBX.out)
              have hz := HZ.out
              obtain ⟨z0, z1, z2, z3, z4, rfl⟩ : ∃ a b c d e, zs = [a, b, c, d, e] := by
                match zs, hz with
                | [a, b, c, d, e], _ => exact ⟨a, b, c, d, e, rfl⟩
              clear hz
              obtain ⟨s0, s1, s2, s3, s4, s5, sf⟩ := HV1.out.read6
              have b0 : wx.cell? ⟨wo.heap.size + 1, 0, none⟩ = some (.int .i64 z0) := HV2.out.cell 0
              have b1 : wx.cell? ⟨wo.heap.size + 1, 1, none⟩ = some (.int .i64 z1) := HV2.out.cell 1
              have b2 : wx.cell? ⟨wo.heap.size + 1, 2, none⟩ = some (.int .i64 z2) := HV2.out.cell 2
              have b3 : wx.cell? ⟨wo.heap.size + 1, 3, none⟩ = some (.int .i64 z3) := HV2.out.cell 3
              have b4 : wx.cell? ⟨wo.heap.size + 1, 4, none⟩ = some (.int .i64 z4) := HV2.out.cell 4
              have hne : wo.heap.size ≠ wo.heap.size + 1 := by omega
              go_upto_region 28 with fail
              rename_i Kx hKx
              clear HHG
              refine reg28 (B := wo.heap.size) (z0 := z0) (z1 := z1) (z2 := z2) (z3 := z3) (z4 := z4) HV1.out HV2.out ?_
              intro W3 hV3 hB3
              refine hKx _ _ ?_
              have hnl : n ≤ 100000 := by have := HNA.out; omega
              have HV3 := hid hV3
              have HB3 := hid (HBX.out.trans hB3)
              clear hV3 hB3
              clear hKx b0 b1 b2 b3 b4 s0 s1 s2 s3 s4 s5 sf HBX HV1 HV2 HOX
              have HO3 := hid (own_next HO.out HB3.out)
              have H3L := hid (Nat.le_trans HB.out.size HB3.out.size)
              obtain ⟨q0, q1, q2, q3, q4, q5, qf⟩ := HV3.out.read6
              go_wp2_with (at_builtin; refine wpList_append_sg (xs := acc) (g := ⟨3, z2, z3, z0, z1, z4⟩) rfl _ _ rfl H3L.out rfl rfl HO3.out hnl ?_)
              intro v6 w6 hown hb
              obtain ⟨A6, c6, rfl, hl6, hs6⟩ := own_segs hown
              have HO6 := hid hown
              have HB6 := hid ((HB.out.trans (HB3.out.mono HB.out.size)).trans hb)
              have HS6 := hid hs6
              have HL6 := hid hl6
              clear hown hb hl6 hs6 q0 q1 q2 q3 q4 q5 qf HO3 HB3 HV3 H3L
              have HSG2 := hid (show segR (dB s) at_ = some (⟨3, z2, z3, z0, z1, z4⟩, a1) from HSG.out)
              by_cases hend : a1 = s.size
              · subst hend
                have HPA := hid (show parseB s = some (acc ++ [⟨3, z2, z3, z0, z1, z4⟩]) by rw [HP.out, par_end HSG2.out (sizeB s).symm]; rfl)
                have HC := hid (rcheck_any A6 (acc ++ [⟨3, z2, z3, z0, z1, z4⟩]) (n + 1) c6 w6 HL6.out (fun _ => HS6.out))
                by_cases hc : chk (acc ++ [⟨3, z2, z3, z0, z1, z4⟩]) = 0
                · have HE1 := hid (show pE s = 0 by unfold pE; rw [HPA.out]; exact hc)
                  have HE2 := hid (show pS s = acc ++ [⟨3, z2, z3, z0, z1, z4⟩] by unfold pS; rw [HPA.out]; simp only; rw [if_pos hc])
                  rw [hc] at HC
                  clear hc
                  go_wp2_with fail
                  (with_reducible refine HC.out.mono ?_); rintro e w7 ⟨rfl, hb⟩
                  have HBX := hid (below_next HB6.out hb)
                  have HSX := hid (HS6.out.next hb)
                  clear hb
                  go_wp2_with fail
                  go_ret2
                  rw [HE1.out, HE2.out]
                  exact ⟨⟨_, _, _, rfl, HL6.out, HSX.out⟩, HBX.out⟩
                · have HE1 := hid (show pE s = chk (acc ++ [⟨3, z2, z3, z0, z1, z4⟩]) by unfold pE; rw [HPA.out])
                  have HE2 := hid (show pS s = [] by unfold pS; rw [HPA.out]; simp only; rw [if_neg hc])
                  have hkn : (chk (acc ++ [⟨3, z2, z3, z0, z1, z4⟩]) != 0) = true := by simp [hc]
                  clear hc
                  generalize chk (acc ++ [⟨3, z2, z3, z0, z1, z4⟩]) = r at HC HE1 hkn
                  go_wp2_with fail
                  (with_reducible refine HC.out.mono ?_); rintro e w7 ⟨rfl, hb⟩
                  have HBX := hid (below_next HB6.out hb)
                  clear hb
                  go_wp2_with fail
                  go_ret2
                  rw [HE1.out, HE2.out]
                  exact ⟨⟨_, _, _, rfl, rfl, Segs.nil _ _⟩, HBX.out⟩
              · have hlt6 : a1 < s.size := by omega
                have hai : (a1 : Int) < (s.size : Int) := by omega
                have haf : ((a1 : Int) == (s.size : Int)) = false := by simp; omega
                have hend2 : a1 ≠ s.data.toList.length := by rw [sizeB]; exact hend
                by_cases hx : byteAt (dB s) a1 ≠ 32
                · have HPN := hid (show parseB s = none by rw [HP.out, par_bad HSG2.out hend2 (.inl hx)]; rfl)
                  have HE := hid (pE_none HPN.out)
                  have e3 : (((s[a1]'hlt6).toNat : Int) != 32) = true := by
                    rw [getB s a1 hlt6]
                    have h4 : ((byteAt s.data.toList a1).toNat : Int) ≠ 32 := fun h => hx (UInt8.toNat_inj.1 (by show (byteAt s.data.toList a1).toNat = 32; omega))
                    simp [h4]
                  clear hx hend hend2
                  go_wp2_with fail
                  go_ret2
                  rw [HE.out.1, HE.out.2]
                  exact ⟨⟨_, _, _, rfl, rfl, Segs.nil _ _⟩, HB6.out⟩
                · have hx : byteAt (dB s) a1 = 32 := Decidable.not_not.1 hx
                  have e3 : (((s[a1]'hlt6).toNat : Int) != 32) = false := by rw [getB s a1 hlt6, show byteAt s.data.toList a1 = 32 from hx]; rfl
                  by_cases hl1 : a1 + 1 = s.size
                  · have HPN := hid (show parseB s = none by rw [HP.out, par_bad HSG2.out hend2 (.inr (by rw [sizeB]; exact hl1))]; rfl)
                    have HE := hid (pE_none HPN.out)
                    have e4 : (((a1 : Int) + 1) == (s.size : Int)) = true := by simp; omega
                    clear hx hend hend2 hl1
                    go_wp2_with fail
                    go_ret2
                    rw [HE.out.1, HE.out.2]
                    exact ⟨⟨_, _, _, rfl, rfl, Segs.nil _ _⟩, HB6.out⟩
                  · have e4 : (((a1 : Int) + 1) == (s.size : Int)) = false := by simp; omega
                    have HP2 := hid (show parseB s = (parR (dB s) f' (a1 + 1)).map ((acc ++ [⟨3, z2, z3, z0, z1, z4⟩]) ++ ·) by
                      rw [HP.out, par_go HSG2.out hend2 (fun h => h.elim (fun h => h hx) (fun h => hl1 (by rw [sizeB] at h; exact h)))]
                      cases parR (dB s) f' (a1 + 1) <;> simp)
                    clear hx hend hend2
                    go_wp2_with fail
                    go_roundw
                    case rel => exact ⟨acc ++ [⟨3, z2, z3, z0, z1, z4⟩], a1 + 1, f', n + 1, _, by go_num, rfl, by omega, by simp; omega, by have := HNA.out; simp; omega, HP2, hid (by have := HF.out; omega), HO6, HB6⟩
                    case measure => simp [intOf]; omega
        · skip
          by_cases hch104 : byteAt (dB s) at_ = 104
          · have hch := hch104
            have HLT := hid (show letter (byteAt (dB s) at_) = some (4, 0) by rw [hch]; rfl)
            have e109 : (((s[at_]'hat).toNat : Int) == 109) = false := by rw [hg, show byteAt s.data.toList at_ = 104 from hch]; rfl
            have e108 : (((s[at_]'hat).toNat : Int) == 108) = false := by rw [hg, show byteAt s.data.toList at_ = 104 from hch]; rfl
            have e113 : (((s[at_]'hat).toNat : Int) == 113) = false := by rw [hg, show byteAt s.data.toList at_ = 104 from hch]; rfl
            have e104 : (((s[at_]'hat).toNat : Int) == 104) = true := by rw [hg, show byteAt s.data.toList at_ = 104 from hch]; rfl
            clear hg hch hch109 hch108 hch113 hch104
            go_wp2_with fail
            go_loopw [5, 9] (fun s5 s9 wr => ∃ (k a1 : Nat) (zs : List Int), s5 = .int .i64 a1 ∧ s9 = .int .i64 k ∧ k ≤ 0 ∧ zs.length = k ∧ at_ < a1 ∧ a1 ≤ s.size ∧ Hid (numsR (dB s) 0 (at_ + 1) = (numsR (dB s) (0 - k) a1).map fun p => (zs ++ p.1, p.2)) ∧ Hid (Var wr wo.heap.size (cel ⟨4, 0, 0, 0, 0, 0⟩) 38) ∧ Hid (Var wr (wo.heap.size + 1) (blk zs) 44) ∧ Hid (Below wo.heap.size wo wr)) (fun _ s9 _ => 0 - (intOf s9).toNat)
            case atStart =>
              exact ⟨0, at_ + 1, [], by go_num, rfl, by omega, rfl, by omega, hat, hid (by show numsR (dB s) 0 (at_ + 1) = _; cases numsR (dB s) 0 (at_ + 1) <;> simp), hid ((Var.new wo _ _ _ rfl).alloc _), hid (Var.new _ _ _ _ (by simp)), hid (below_alloc (below_alloc (Below.refl _ wo) _) _)⟩
            case round =>
              obtain ⟨wx, rfl⟩ : ∃ wx, wx = wr := ⟨_, rfl⟩
              obtain ⟨k, a1, zs, rfl, rfl, hk, hz, hlo, hhi, HN, HV1, HV2, HBX⟩ := hrel
              have HB1 := hid (HB.out.trans (HBX.out.mono HB.out.size))
              clear hw1
              have HZ := hid hz
              have HS0 := hid hsp
              clear hsp hz
              have hk0 : (0 : Int) ≤ (k : Int) := Int.natCast_nonneg _
              have ha1 : (0 : Int) ≤ (a1 : Int) := Int.natCast_nonneg _
              have hw2 : IntKind.i64.wrap ((a1 : Int) + 1) = ((a1 + 1 : Nat) : Int) := by rw [show ((a1 + 1 : Nat) : Int) = (a1 : Int) + 1 by omega]; exact IntWalk.i64_in _ (by omega)
              by_cases hlt : k < 0
              · exact absurd hlt (by omega)
              · obtain rfl : k = 0 := by omega
                have HSG := hid (seg_some HLT.out (show numsR (dB s) 0 (at_ + 1) = some (zs, a1) by rw [HN.out]; simp [numsR]))
                have HOX := hid (own_next HO.out HBX.out)
                have hz := HZ.out
                obtain rfl : zs = [] := List.eq_nil_of_length_eq_zero hz
                clear hz
                obtain ⟨s0, s1, s2, s3, s4, s5, sf⟩ := HV1.out.read6
                have b0 : wx.cell? ⟨wo.heap.size + 1, 0, none⟩ = some (.int .i64 0) := HV2.out.cell 0
                have b1 : wx.cell? ⟨wo.heap.size + 1, 1, none⟩ = some (.int .i64 0) := HV2.out.cell 1
                have hne : wo.heap.size ≠ wo.heap.size + 1 := by omega
                go_upto_region 29 with fail
                rename_i Kx hKx
                clear HHG
                go_region
                refine hKx _ _ ?_
                have hnl : n ≤ 100000 := by have := HNA.out; omega
                have HV3 := hid (show Var (((wx.setCell ⟨wo.heap.size, 1, none⟩ (.int .i64 0)).setCell ⟨wo.heap.size, 2, none⟩ (.int .i64 0)).drew) wo.heap.size (cel ⟨4, 0, 0, 0, 0, 0⟩) 38 from ((HV1.out.set (i := 1) (.int .i64 0)).set (i := 2) (.int .i64 0)).drew)
                have HB3 := hid (show Below wo.heap.size wo (((wx.setCell ⟨wo.heap.size, 1, none⟩ (.int .i64 0)).setCell ⟨wo.heap.size, 2, none⟩ (.int .i64 0)).drew) from ((HBX.out.setCell (p := ⟨wo.heap.size, 1, none⟩) (Nat.le_refl _) _).setCell (p := ⟨wo.heap.size, 2, none⟩) (Nat.le_refl _) _).drew)
                generalize (((wx.setCell ⟨wo.heap.size, 1, none⟩ (.int .i64 0)).setCell ⟨wo.heap.size, 2, none⟩ (.int .i64 0)).drew) = W3 at HV3 HB3 ⊢
                clear hKx b0 b1 s0 s1 s2 s3 s4 s5 sf HBX HV1 HV2 HOX
                have HO3 := hid (own_next HO.out HB3.out)
                have H3L := hid (Nat.le_trans HB.out.size HB3.out.size)
                obtain ⟨q0, q1, q2, q3, q4, q5, qf⟩ := HV3.out.read6
                go_wp2_with (at_builtin; refine wpList_append_sg (xs := acc) (g := ⟨4, 0, 0, 0, 0, 0⟩) rfl _ _ rfl H3L.out rfl rfl HO3.out hnl ?_)
                intro v6 w6 hown hb
                obtain ⟨A6, c6, rfl, hl6, hs6⟩ := own_segs hown
                have HO6 := hid hown
                have HB6 := hid ((HB.out.trans (HB3.out.mono HB.out.size)).trans hb)
                have HS6 := hid hs6
                have HL6 := hid hl6
                clear hown hb hl6 hs6 q0 q1 q2 q3 q4 q5 qf HO3 HB3 HV3 H3L
                have HSG2 := hid (show segR (dB s) at_ = some (⟨4, 0, 0, 0, 0, 0⟩, a1) from HSG.out)
                by_cases hend : a1 = s.size
                · subst hend
                  have HPA := hid (show parseB s = some (acc ++ [⟨4, 0, 0, 0, 0, 0⟩]) by rw [HP.out, par_end HSG2.out (sizeB s).symm]; rfl)
                  have HC := hid (rcheck_any A6 (acc ++ [⟨4, 0, 0, 0, 0, 0⟩]) (n + 1) c6 w6 HL6.out (fun _ => HS6.out))
                  by_cases hc : chk (acc ++ [⟨4, 0, 0, 0, 0, 0⟩]) = 0
                  · have HE1 := hid (show pE s = 0 by unfold pE; rw [HPA.out]; exact hc)
                    have HE2 := hid (show pS s = acc ++ [⟨4, 0, 0, 0, 0, 0⟩] by unfold pS; rw [HPA.out]; simp only; rw [if_pos hc])
                    rw [hc] at HC
                    clear hc
                    go_wp2_with fail
                    (with_reducible refine HC.out.mono ?_); rintro e w7 ⟨rfl, hb⟩
                    have HBX := hid (below_next HB6.out hb)
                    have HSX := hid (HS6.out.next hb)
                    clear hb
                    go_wp2_with fail
                    go_ret2
                    rw [HE1.out, HE2.out]
                    exact ⟨⟨_, _, _, rfl, HL6.out, HSX.out⟩, HBX.out⟩
                  · have HE1 := hid (show pE s = chk (acc ++ [⟨4, 0, 0, 0, 0, 0⟩]) by unfold pE; rw [HPA.out])
                    have HE2 := hid (show pS s = [] by unfold pS; rw [HPA.out]; simp only; rw [if_neg hc])
                    have hkn : (chk (acc ++ [⟨4, 0, 0, 0, 0, 0⟩]) != 0) = true := by simp [hc]
                    clear hc
                    generalize chk (acc ++ [⟨4, 0, 0, 0, 0, 0⟩]) = r at HC HE1 hkn
                    go_wp2_with fail
                    (with_reducible refine HC.out.mono ?_); rintro e w7 ⟨rfl, hb⟩
                    have HBX := hid (below_next HB6.out hb)
                    clear hb
                    go_wp2_with fail
                    go_ret2
                    rw [HE1.out, HE2.out]
                    exact ⟨⟨_, _, _, rfl, rfl, Segs.nil _ _⟩, HBX.out⟩
                · have hlt6 : a1 < s.size := by omega
                  have hai : (a1 : Int) < (s.size : Int) := by omega
                  have haf : ((a1 : Int) == (s.size : Int)) = false := by simp; omega
                  have hend2 : a1 ≠ s.data.toList.length := by rw [sizeB]; exact hend
                  by_cases hx : byteAt (dB s) a1 ≠ 32
                  · have HPN := hid (show parseB s = none by rw [HP.out, par_bad HSG2.out hend2 (.inl hx)]; rfl)
                    have HE := hid (pE_none HPN.out)
                    have e3 : (((s[a1]'hlt6).toNat : Int) != 32) = true := by
                      rw [getB s a1 hlt6]
                      have h4 : ((byteAt s.data.toList a1).toNat : Int) ≠ 32 := fun h => hx (UInt8.toNat_inj.1 (by show (byteAt s.data.toList a1).toNat = 32; omega))
                      simp [h4]
                    clear hx hend hend2
                    go_wp2_with fail
                    go_ret2
                    rw [HE.out.1, HE.out.2]
                    exact ⟨⟨_, _, _, rfl, rfl, Segs.nil _ _⟩, HB6.out⟩
                  · have hx : byteAt (dB s) a1 = 32 := Decidable.not_not.1 hx
                    have e3 : (((s[a1]'hlt6).toNat : Int) != 32) = false := by rw [getB s a1 hlt6, show byteAt s.data.toList a1 = 32 from hx]; rfl
                    by_cases hl1 : a1 + 1 = s.size
                    · have HPN := hid (show parseB s = none by rw [HP.out, par_bad HSG2.out hend2 (.inr (by rw [sizeB]; exact hl1))]; rfl)
                      have HE := hid (pE_none HPN.out)
                      have e4 : (((a1 : Int) + 1) == (s.size : Int)) = true := by simp; omega
                      clear hx hend hend2 hl1
                      go_wp2_with fail
                      go_ret2
                      rw [HE.out.1, HE.out.2]
                      exact ⟨⟨_, _, _, rfl, rfl, Segs.nil _ _⟩, HB6.out⟩
                    · have e4 : (((a1 : Int) + 1) == (s.size : Int)) = false := by simp; omega
                      have HP2 := hid (show parseB s = (parR (dB s) f' (a1 + 1)).map ((acc ++ [⟨4, 0, 0, 0, 0, 0⟩]) ++ ·) by
                        rw [HP.out, par_go HSG2.out hend2 (fun h => h.elim (fun h => h hx) (fun h => hl1 (by rw [sizeB] at h; exact h)))]
                        cases parR (dB s) f' (a1 + 1) <;> simp)
                      clear hx hend hend2
                      go_wp2_with fail
                      go_roundw
                      case rel => exact ⟨acc ++ [⟨4, 0, 0, 0, 0, 0⟩], a1 + 1, f', n + 1, _, by go_num, rfl, by omega, by simp; omega, by have := HNA.out; simp; omega, HP2, hid (by have := HF.out; omega), HO6, HB6⟩
                      case measure => simp [intOf]; omega
          · skip
            have hbad : letter (byteAt (dB s) at_) = none := by unfold letter; rw [if_neg hch109, if_neg hch108, if_neg hch113, if_neg hch104]
            have HPN := hid (show parseB s = none by rw [HP.out, par_none (seg_bad hbad)]; rfl)
            have HE := hid (pE_none HPN.out)
            have e109 : (((s[at_]'hat).toNat : Int) == 109) = false := by
              rw [hg]
              have h4 : ((byteAt s.data.toList at_).toNat : Int) ≠ 109 := fun h => hch109 (UInt8.toNat_inj.1 (by show (byteAt s.data.toList at_).toNat = 109; omega))
              simp [h4]
            have e108 : (((s[at_]'hat).toNat : Int) == 108) = false := by
              rw [hg]
              have h4 : ((byteAt s.data.toList at_).toNat : Int) ≠ 108 := fun h => hch108 (UInt8.toNat_inj.1 (by show (byteAt s.data.toList at_).toNat = 108; omega))
              simp [h4]
            have e113 : (((s[at_]'hat).toNat : Int) == 113) = false := by
              rw [hg]
              have h4 : ((byteAt s.data.toList at_).toNat : Int) ≠ 113 := fun h => hch113 (UInt8.toNat_inj.1 (by show (byteAt s.data.toList at_).toNat = 113; omega))
              simp [h4]
            have e104 : (((s[at_]'hat).toNat : Int) == 104) = false := by
              rw [hg]
              have h4 : ((byteAt s.data.toList at_).toNat : Int) ≠ 104 := fun h => hch104 (UInt8.toNat_inj.1 (by show (byteAt s.data.toList at_).toNat = 104; omega))
              simp [h4]
            clear hg hbad hch109 hch108 hch113 hch104
            have HB1 := hid (below_alloc HB.out (.cells (cel ⟨0, 0, 0, 0, 0, 0⟩) 38))
            go_wp2_with fail
            go_ret2
            rw [HE.out.1, HE.out.2]
            exact ⟨⟨_, _, _, rfl, rfl, Segs.nil _ _⟩, HB1.out⟩

theorem pS_len (s : ByteArray) : (pS s).length ≤ 1000 := by
  unfold pS
  cases h : parseB s with
  | none => simp
  | some ss =>
    simp only
    split
    · rename_i hc; exact chk_le hc
    · simp
theorem rparse_any (s : ByteArray) (w : World) (hs : s.size ≤ 40000) :
    Calls Tryd.prog 9 #[.string s] w fun e w' => (∃ A n c, e = .returned (.tuple #[.slice A n c, .int .i64 (pE s)]) ∧ n = (pS s).length ∧ Segs w' A (pS s)) ∧ Below w.heap.size w w' := by
  rcases Nat.eq_zero_or_pos s.size with h0 | h0
  · have hs' : s = ⟨#[]⟩ := by
      obtain ⟨⟨l⟩⟩ := s
      have : l.length = 0 := h0
      rw [List.eq_nil_of_length_eq_zero this]
    subst hs'
    rw [show pE ⟨#[]⟩ = 0 from rfl, show pS ⟨#[]⟩ = [] from rfl]
    have HC := fun w' => hid (rcheck_any none [] 0 0 w' rfl fun _ => Segs.nil w' none)
    rw [show chk [] = 0 from rfl] at HC
    go_enter Tryd.func9, Tryd.ntmps9
    go_wp2_with fail
    go_loopw [4] (fun s4 wr => s4 = .slice none 0 0 ∧ Hid (Below w.heap.size w wr)) (fun _ _ => 0)
    case atStart => exact ⟨rfl, hid (Below.refl _ _)⟩
    case round =>
      obtain ⟨rfl, HB⟩ := hrel
      go_wp2_with fail
      (with_reducible refine (HC _).out.mono ?_); rintro e w2 ⟨rfl, hb⟩
      have HBX := hid (below_next HB.out hb)
      clear hb
      go_wp2_with fail
      go_ret2
      exact ⟨⟨_, _, _, rfl, rfl, Segs.nil _ _⟩, HBX.out⟩
  · exact rparse_some s w h0 hs
end Go.Proofs.YtijkoaggcmgjiabDoor
