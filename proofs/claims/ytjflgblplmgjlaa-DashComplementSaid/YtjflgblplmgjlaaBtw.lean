/- dash's between: the points of one dash. -/
import Derived.Test.YtjflgblplmgjlaaGot
namespace Go.Proofs.Ytjflgblplmgjlaa
open Go Go.RowKit
set_option linter.unusedVariables false
set_option linter.unusedSimpArgs false

theorem OwnP.lit1 (w : World) (q : P2) : OwnP (w.alloc (.cells (pcel q) 37)) w.heap.size (.slice (some ⟨w.heap.size, 0, none⟩) 1 1) [q] := World.ownsRow_lit w (pcel q) 1 (Nat.le_refl _) (by decide) rfl
/-- What a newer row did is no older block's matter. -/
theorem Gr.over {u u' v v' : Value} {w W W' : World} (h : Gr u u' w W) (hg : Gr v v' W W') (hv : ∀ k, v.ownBlock = some k → w.heap.size ≤ k) : Gr u u' w W' :=
  ⟨⟨hg.g.os.trans h.g.os, hg.g.tape.trans h.g.tape, hg.g.output.trans h.g.output, Nat.le_trans h.g.size hg.g.size, fun i hi hne => (hg.g.block i (Nat.lt_of_lt_of_le hi h.g.size) (fun e => by have := hv i e.symm; omega)).trans (h.g.block i hi hne)⟩, h.o⟩
theorem OwnP.gr {w w' : World} {B : Nat} {v : Value} {xs : List P2} {b : Nat} (h : OwnP w B v xs) (hg : Gr (yb b) (yb b) w w') (hb : b < B) : OwnP w' B v xs :=
  h.keep fun k hk => hg.block (h.ge k hk).2 (by show some b ≠ some k; have := (h.ge k hk).1; simp; omega)
theorem Wlk.up {W W' : World} {b g : Nat} {ps : List P2} {j B : Nat} (h : Wlk W b g ps j) {v v' : Value} (hg : Gr v v' W W') (hv : ∀ k, v.ownBlock = some k → B ≤ k) (hb : b < B) : Wlk W' b g ps j :=
  h.gr hg (fun e => by have := hv b e; omega) (fun e => by have := hv g e; have := h.gb; omega)

set_option maxRecDepth 100000 in
set_option maxHeartbeats 4000000 in
theorem between_any (b g : Nat) (ps : List P2) (j : Nat) (fr tt : Int) (w : World) (hW : Wlk w b g ps j) (hP : Past ps j fr) (h0 : 0 ≤ fr) (hft : fr < tt) (ht : tt ≤ lenP ps) (hok : OkL ps) :
    Calls Try.prog 27 #[.pointer (some ⟨b, 0, none⟩), .int .i64 fr, .int .i64 tt] w fun e w' => ∃ vp j', e = .returned vp ∧ OwnP w' w.heap.size vp (dashS (sidesP ps) fr tt) ∧ Wlk w' b g ps j' ∧ Past ps j' tt ∧ Gr (yb b) (yb b) w w' := by
  have HK := hid hok
  have HT := hid ht
  have HBL := hid hW.lt
  have HC1 := hid (goTo_any b g ps j fr w hW hP h0 (by omega) hok)
  have HFT := hid hft
  have H0 := hid h0
  clear hW hP ht hok
  go_enter Try.func27, Try.ntmps27
  go_wp2_with fail
  (with_reducible refine HC1.out.mono ?_); rintro e w1 ⟨rfl, j1, hj1, hj2, hw1, hp1, hg1, hgr⟩
  obtain ⟨q, hq⟩ : ∃ q, q = posS (sidesP ps) fr := ⟨_, rfl⟩
  have HQ := hid hq
  rw [← hq]
  have HBW1 := hid (show w.heap.size ≤ w1.heap.size from hgr.size)
  have hb1 : Below w1.heap.size w1 (w1.alloc (.cells (pcel q) 37)) := below_alloc (Below.refl _ _) _
  have HS := hid (show OwnP (w1.alloc (.cells (pcel q) 37)) w.heap.size (.slice (some ⟨w1.heap.size, 0, none⟩) 1 1) (q :: midT ps fr tt j1) ∧ Wlk (w1.alloc (.cells (pcel q) 37)) b g ps j1 ∧ Past ps j1 tt ∧ Gr (yb b) (yb b) w (w1.alloc (.cells (pcel q) 37)) from
    ⟨by rw [midT_low (hp1.at_ h0)]; exact (OwnP.lit1 w1 q).mono hgr.size, hw1.next hb1, hp1.more (by omega), hgr.next hb1⟩)
  clear hq hj1 hj2 hw1 hp1 hg1 hgr hb1 HC1
  go_wp2_with fail
  go_loopw [7] (fun s7 wr => ∃ (j' : Nat) (vp : Value), vp = s7 ∧ Hid (OwnP wr w.heap.size vp (q :: midT ps fr tt j') ∧ Wlk wr b g ps j' ∧ Past ps j' tt ∧ Gr (yb b) (yb b) w wr)) (fun _ wr => lenAt wr b)
  case atStart => exact ⟨j1, _, rfl, HS⟩
  case round =>
    clear HS HBW1
    obtain ⟨j', vp, rfl, HL⟩ := hrel
    have hlt := HL.out.2.2.1.lt HL.out.2.1.jl HK.out.l HT.out
    have HLT := hid hlt
    have HM := hid HL.out.2.1.lenAt
    obtain ⟨a, c, hv, hc1, hc2, hd, hag, hal⟩ := HL.out.2.1.at_ hlt
    have HV := hid hv
    have HAL := hid hal
    obtain ⟨k, hk⟩ : ∃ k, k + 1 = ps.length - 1 - j' := ⟨ps.length - 1 - j' - 1, by omega⟩
    have HKK := hid hk
    rw [← hk] at hv hc1
    obtain ⟨v0, vf⟩ := hv.read1
    have HD := hid hd
    obtain ⟨-, -, d2, d3, -, d5⟩ := hd
    have hE1 : (sdAt ps j').e = posn ps (j' + 1) := rfl
    have hT1 : (sdAt ps j').t = ps.getD (j' + 1) default := rfl
    rw [hE1] at d5
    rw [hT1] at d2 d3
    have HMT := hid (midT_succ ps fr tt j')
    unfold maxLen at hc2
    clear hv hE1 hT1 hlt hag hk
    have HLN := hid (show (q :: midT ps fr tt j').length ≤ 5000000000 by
      rw [List.length_cons]
      have h1 := midT_len ps fr tt j'
      have h2 := HK.out.n
      have h3 := HLT.out
      omega)
    have HBW := hid (show w.heap.size ≤ wr.heap.size from HL.out.2.2.2.size)
    have HMS : ∀ X : World, Wlk X b g ps j' → Var X b #[.slice (some a) (ps.length - 1 - j') c] 56 → lenAt (X.setCell ⟨b, 0, none⟩ (.slice (if c = 1 then some a else some ⟨a.block, a.off + 6, none⟩) k (c - 1))) b < lenAt wr b := fun X hX hVX => by
      rw [(hX.step HLT.out hVX k (by have := HKK.out; omega)).lenAt, HM.out]
      have := HLT.out
      omega
    have NX : ∀ (X : World) (v' : Value), OwnP X w.heap.size v' (q :: midT ps fr tt (j' + 1)) → Wlk X b g ps j' → Var X b #[.slice (some a) (ps.length - 1 - j') c] 56 → Past ps (j' + 1) tt → Gr (yb b) (yb b) w X →
        Hid (OwnP (X.setCell ⟨b, 0, none⟩ (.slice (if c = 1 then some a else some ⟨a.block, a.off + 6, none⟩) k (c - 1))) w.heap.size v' (q :: midT ps fr tt (j' + 1)) ∧ Wlk (X.setCell ⟨b, 0, none⟩ (.slice (if c = 1 then some a else some ⟨a.block, a.off + 6, none⟩) k (c - 1))) b g ps (j' + 1) ∧ Past ps (j' + 1) tt ∧ Gr (yb b) (yb b) w (X.setCell ⟨b, 0, none⟩ (.slice (if c = 1 then some a else some ⟨a.block, a.off + 6, none⟩) k (c - 1)))) := fun X v' h1 h2 h3 h4 h5 =>
      hid ⟨h1.gr (Gr.yset _) HBL.out, h2.step HLT.out h3 k (by have := HKK.out; omega), h4, h5.trans (Gr.yset _)⟩
    by_cases k1 : posn ps (j' + 1) < tt
    · have HP' := hid (HL.out.2.2.1.step (good_f (.inl k1)))
      by_cases k2 : fr < posn ps (j' + 1)
      · rw [if_pos ⟨k2, k1⟩] at HMT
        generalize ps.getD (j' + 1) default = t at d2 d3 HMT
        generalize posn ps (j' + 1) = E1 at d5 k1 k2
        go_wp2_with (at_builtin; refine wpList_append_Pt (B := w.heap.size) (s := t) rfl _ _ rfl HBW.out rfl rfl HL.out.1 HLN.out ?_)
        intro v' w' ho hg
        have hov : ∀ k, vp.ownBlock = some k → w.heap.size ≤ k := fun k hk => (HL.out.1.ge k hk).1
        have HO' := hid (show OwnP w' w.heap.size v' (q :: midT ps fr tt (j' + 1)) by rw [HMT.out]; exact ho)
        have HW' := hid (HL.out.2.1.up hg hov HBL.out)
        have HV' := hid (hg.var HV.out (fun e => by have := hov b e; have := HBL.out; omega))
        have HG' := hid (HL.out.2.2.2.over hg hov)
        have x0 := hg.cellk (b := b) (o := 0) HL.out.2.1.lt (fun e => by have := hov b e; have := HBL.out; omega) v0
        have xf : ∀ i, w'.frozen? ⟨b, i, none⟩ = false := (HV'.out).free
        clear ho hg hov v0 vf d2 d3 d5
        go_wp2_with fail
        go_roundw
        case rel => exact ⟨j' + 1, v', rfl, NX _ _ HO'.out HW'.out HV'.out HP'.out HG'.out⟩
        case measure => exact HMS _ HW'.out HV'.out
      · rw [if_neg (fun h => k2 h.1), List.append_nil] at HMT
        have HO' := hid (show OwnP wr w.heap.size vp (q :: midT ps fr tt (j' + 1)) by rw [HMT.out]; exact HL.out.1)
        generalize posn ps (j' + 1) = E1 at d5 k1 k2
        clear d2 d3
        go_wp2_with fail
        go_roundw
        case rel => exact ⟨j' + 1, vp, rfl, NX _ _ HO'.out HL.out.2.1 HV.out HP'.out HL.out.2.2.2⟩
        case measure => exact HMS _ HL.out.2.1 HV.out
    · have HC2 := hid (goTo_any b g ps j' tt wr HL.out.2.1 HL.out.2.2.1 (by have := H0.out; have := HFT.out; omega) HT.out HK.out)
      have HMA := hid (show midS (sidesP ps) fr tt = midT ps fr tt j' by
        rw [← midT_all]
        exact midT_high (by omega) _ (by have := HLT.out; omega))
      generalize posn ps (j' + 1) = E1 at d5 k1
      clear d2 d3 NX HMS HMT
      go_wp2_with fail
      (with_reducible refine HC2.out.mono ?_); rintro e w2 ⟨rfl, j2, hj1, hj2, hw2, hp2, hg2, hgr⟩
      have HO2 := hid (HL.out.1.gr hgr HBL.out)
      have HBW2 := hid (Nat.le_trans HBW.out hgr.size)
      have HG2 := hid (HL.out.2.2.2.trans hgr)
      have HW2 := hid hw2
      have HP2 := hid hp2
      have HDS := hid (show dashS (sidesP ps) fr tt = (q :: midT ps fr tt j') ++ [posS (sidesP ps) tt] by unfold dashS; rw [HQ.out, HMA.out]; rfl)
      generalize posS (sidesP ps) tt = t at HDS ⊢
      clear hj1 hj2 hw2 hp2 hg2 hgr v0 vf d5 HC2
      go_wp2_with (at_builtin; refine wpList_append_Pt (B := w.heap.size) (s := t) rfl _ _ rfl HBW2.out rfl rfl HO2.out HLN.out ?_)
      intro v' w' ho hg
      have hov : ∀ k, vp.ownBlock = some k → w.heap.size ≤ k := fun k hk => (HO2.out.ge k hk).1
      have HO' := hid (show OwnP w' w.heap.size v' (dashS (sidesP ps) fr tt) by rw [HDS.out]; exact ho)
      have HW' := hid (HW2.out.up hg hov HBL.out)
      have HG' := hid (HG2.out.over hg hov)
      clear ho hg hov
      go_wp2_with fail
      go_ret
      exact ⟨v', j2, rfl, HO'.out, HW'.out, HP2.out, HG'.out⟩
end Go.Proofs.Ytjflgblplmgjlaa
