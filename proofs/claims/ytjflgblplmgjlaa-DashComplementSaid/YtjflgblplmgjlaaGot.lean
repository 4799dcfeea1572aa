/- dash's goTo: the walk's state, and the point at a position. -/
import Derived.Test.YtjflgblplmgjlaaSid
namespace Go.Proofs.Ytjflgblplmgjlaa
open Go Go.RowKit
set_option linter.unusedVariables false
set_option linter.unusedSimpArgs false

/-- The walk in block b is at side j; the sides lie in block g. -/
structure Wlk (W : World) (b g : Nat) (ps : List P2) (j : Nat) : Prop where
  jl : j ≤ ps.length - 1
  gb : g < b
  s : ∃ A c, Var W b #[.slice A (ps.length - 1 - j) c] 56 ∧ ps.length - 1 - j ≤ c ∧ c ≤ maxLen ∧ RowD W A ((sidesP ps).drop j) ∧ ∀ a, A = some a → a.block = g
section
variable {W W' : World} {b g : Nat} {ps : List P2} {j : Nat}
theorem RowD.keep {A : Option Addr} {ss : List Sd} (h : RowD W A ss) (hs : W.heap.size ≤ W'.heap.size) (hk : ∀ a, A = some a → W'.heap[a.block]? = W.heap[a.block]?) : RowD W' A ss := fun hn => by
  obtain ⟨a, rfl, hl, hr⟩ := h hn
  have hk' : ∀ p : Addr, p.block = a.block → W'.cell? p = W.cell? p := fun p hp => World.cell?_of_block (by rw [hp]; exact hk a rfl)
  refine ⟨a, rfl, Nat.lt_of_lt_of_le hl hs, fun i s hi => ?_⟩
  have h1 := hr i s hi
  have e : ∀ n, W'.cell? ⟨(a.add (i * 6)).block, (a.add (i * 6)).off + n, none⟩ = W.cell? ⟨(a.add (i * 6)).block, (a.add (i * 6)).off + n, none⟩ := fun n => hk' _ (add_block _ _)
  exact ⟨(hk' _ (add_block _ _)).trans h1.c0, (e 1).trans h1.c1, (e 2).trans h1.c2, (e 3).trans h1.c3, (e 4).trans h1.c4, (e 5).trans h1.c5⟩
theorem Wlk.gr (h : Wlk W b g ps j) {u u' : Value} (hg : Gr u u' W W') (hb : u.ownBlock ≠ some b) (hgb : u.ownBlock ≠ some g) : Wlk W' b g ps j := by
  obtain ⟨h1, h2, A, c, hv, h3, h4, h5, h6⟩ := h
  have hgl : g < W.heap.size := Nat.lt_trans h2 hv.lt
  exact ⟨h1, h2, A, c, hg.var hv hb, h3, h4, h5.keep hg.size fun a ha => by rw [h6 a ha]; exact hg.block hgl hgb, h6⟩
theorem Wlk.next (h : Wlk W b g ps j) (hb : Below W.heap.size W W') : Wlk W' b g ps j := by
  obtain ⟨h1, h2, A, c, hv, h3, h4, h5, h6⟩ := h
  exact ⟨h1, h2, A, c, hv.next hb, h3, h4, h5.next hb, h6⟩
theorem Wlk.lt (h : Wlk W b g ps j) : b < W.heap.size := by
  obtain ⟨h1, h2, A, c, hv, -⟩ := h
  exact hv.lt
theorem Wlk.at_ (h : Wlk W b g ps j) (hj : j < ps.length - 1) : ∃ a c, Var W b #[.slice (some a) (ps.length - 1 - j) c] 56 ∧ ps.length - 1 - j ≤ c ∧ c ≤ maxLen ∧ DAt W a (sdAt ps j) ∧ a.block = g ∧ a.block < W.heap.size := by
  obtain ⟨h1, h2, A, c, hv, h3, h4, h5, h6⟩ := h
  have hd : 0 < ((sidesP ps).drop j).length := by rw [List.length_drop, sidesP_len]; omega
  obtain ⟨a, rfl, hal, hsa⟩ := h5.at_ hd
  have hj' : j < (sidesP ps).length := by rw [sidesP_len]; exact hj
  have e : ((sidesP ps).drop j)[0] = sdAt ps j := by
    have h7 := sidesP_get hj
    rw [List.getElem?_eq_getElem hj'] at h7
    rw [List.getElem_drop]
    exact Option.some.inj h7
  rw [e, show a.add (0 * 6) = a by unfold Addr.add; rfl] at hsa
  exact ⟨a, c, hv, h3, h4, hsa, h6 a rfl, hal⟩
theorem Wlk.step {a : Addr} {c : Nat} (h : Wlk W b g ps j) (hj : j < ps.length - 1) (hv : Var W b #[.slice (some a) (ps.length - 1 - j) c] 56) (n' : Nat) (hn' : n' = ps.length - 1 - j - 1) :
    Wlk (W.setCell ⟨b, 0, none⟩ (.slice (if c = 1 then some a else some ⟨a.block, a.off + 6, none⟩) n' (c - 1))) b g ps (j + 1) := by
  rw [show (if c = 1 then some a else some (⟨a.block, a.off + 6, none⟩ : Addr)) = some (if c = 1 then a else a.add 6) by split <;> rfl]
  obtain ⟨h1, h2, A, c', hv', h3, h4, h5, h6⟩ := h
  have e : (#[Value.slice A (ps.length - 1 - j) c'] : Array Value) = #[.slice (some a) (ps.length - 1 - j) c] := by
    unfold Var at hv hv'
    rw [hv] at hv'
    have := Option.some.inj hv'
    injection this with h7
    exact h7.symm
  have e2 : Value.slice A (ps.length - 1 - j) c' = .slice (some a) (ps.length - 1 - j) c := by
    have := congrArg (fun x => x.getD 0 undef) e
    simpa using this
  injection e2 with e3 _ e4
  subst e3; subst e4; subst hn'
  have hbl : (if c' = 1 then a else a.add 6).block = g := by
    split
    · exact h6 a rfl
    · rw [add_block]; exact h6 a rfl
  refine ⟨by omega, h2, some (if c' = 1 then a else a.add 6), c' - 1, ?_, ?_, ?_, ?_, fun a' ha' => by rw [← Option.some.inj ha']; exact hbl⟩
  · have := hv.set (i := 0) (.slice (some (if c' = 1 then a else a.add 6)) (ps.length - 1 - j - 1) (c' - 1))
    rw [show ps.length - 1 - (j + 1) = ps.length - 1 - j - 1 by omega]
    simpa using this
  · omega
  · omega
  · refine RowD.keep (W := W) (fun hne => ?_) (by rw [World.size_setCell]; exact Nat.le_refl _) fun a' ha' => ?_
    · have hd : (sidesP ps).drop j ≠ [] := fun e => by
        have : ((sidesP ps).drop j).length = 0 := by rw [e]; rfl
        rw [List.length_drop, sidesP_len] at this
        omega
      obtain ⟨a', e', hl, hr⟩ := h5 hd
      obtain rfl := Option.some.inj e'
      have hc1 : ¬ c' = 1 := fun e => by
        apply hne
        refine List.drop_eq_nil_of_le ?_
        rw [sidesP_len]; omega
      refine ⟨a.add 6, by rw [if_neg hc1], by rw [add_block]; exact hl, fun i s hs => ?_⟩
      have := hr (i + 1) s (by rw [List.getElem?_drop] at hs ⊢; rw [← hs]; congr 1; omega)
      rw [add_add']
      rw [show 6 + i * 6 = (i + 1) * 6 by omega]
      exact this
    · rw [← Option.some.inj ha']
      exact Below.heap_setCell _ _ _ _ (by rw [hbl]; exact Nat.ne_of_lt h2)
end
/-- A store into a block that is new. -/
theorem Gr.fresh {v v' : Value} {W w : World} {r o : Nat} {u : Value} (h : Gr v v' W w) (hr : W.heap.size ≤ r) : Gr v v' W (w.setCell ⟨r, o, none⟩ u) :=
  ⟨⟨h.g.os, h.g.tape, h.g.output, by rw [World.size_setCell]; exact h.g.size, fun i hi hne => (Below.heap_setCell _ _ _ _ (by show i ≠ r; omega)).trans (h.g.block i hi hne)⟩, h.o⟩
def lenAt (w : World) (b : Nat) : Nat := match w.cell? ⟨b, 0, none⟩ with
  | some (.slice _ n _) => n
  | _ => 0
theorem lenAt_is {w : World} {b n c : Nat} {A : Option Addr} (h : w.cell? ⟨b, 0, none⟩ = some (.slice A n c)) : lenAt w b = n := by unfold lenAt; rw [h]
theorem Wlk.lenAt {W : World} {b g : Nat} {ps : List P2} {j : Nat} (h : Wlk W b g ps j) : lenAt W b = ps.length - 1 - j := by
  obtain ⟨h1, h2, A, c, hv, -⟩ := h
  exact lenAt_is (hv.cell 0)
theorem Gr.yset {w : World} {b : Nat} (u : Value) : Gr (yb b) (yb b) w (w.setCell ⟨b, 0, none⟩ u) := Gr.set
theorem sdAt_in {ps : List P2} (h : ∀ p ∈ ps, PIn p) {j : Nat} (hj : j ≤ 2000001) : SdIn (sdAt ps j) := by
  have h1 := posn_le h (j + 1)
  refine ⟨getD_in h, getD_in h, posn_nn _ _, ?_, ?_⟩
  · show posn ps (j + 1) ≤ _
    push_cast at h1
    omega
  · show posn ps j + dst _ _ - posn ps j ≤ _
    have := dst_le (getD_in h (j := j)) (getD_in h (j := j + 1))
    omega

/-- A line whose points are in range. -/
structure OkL (ps : List P2) : Prop where
  i : ∀ p ∈ ps, PIn p
  n : ps.length ≤ 2000001
  l : 0 < lenP ps
set_option maxRecDepth 100000 in
set_option maxHeartbeats 4000000 in
theorem goTo_any (b g : Nat) (ps : List P2) (j : Nat) (p : Int) (w : World) (hW : Wlk w b g ps j) (hP : Past ps j p) (h0 : 0 ≤ p) (hp : p ≤ lenP ps) (hok : OkL ps) :
    Calls Try.prog 38 #[.pointer (some ⟨b, 0, none⟩), .int .i64 p] w fun e w' => e = .returned (ptv (posS (sidesP ps) p)) ∧ ∃ j', j ≤ j' ∧ j' < ps.length - 1 ∧ Wlk w' b g ps j' ∧ Past ps j' p ∧ good p (sdAt ps j') = true ∧ Gr (yb b) (yb b) w w' := by
  have HW := hid hW
  have HP := hid hP
  have HK := hid hok
  have HPL := hid hp
  have H0 := hid h0
  clear hW hP hok hp h0
  have HB := hid (below_alloc (Below.refl w.heap.size w) (.cells (pcel ⟨0, 0⟩) 37))
  have HV := hid (Var.new w (pcel ⟨0, 0⟩) 37 _ rfl)
  have HG := hid (Gr.of_below (v := yb b) HB.out)
  have HW0 := hid (HW.out.next HB.out)
  have HBL := hid HW.out.lt
  obtain ⟨r, hr⟩ : ∃ r, r = w.heap.size := ⟨_, rfl⟩
  have HR := hid hr
  rw [← hr] at HV
  go_enter Try.func38, Try.ntmps38
  go_wp2_with fail
  rw [← hr]
  clear hr
  go_loopw [5] (fun s5 wr => ∃ (j' : Nat), j ≤ j' ∧ Hid (Wlk wr b g ps j' ∧ Past ps j' p ∧ Gr (yb b) (yb b) w wr ∧ Var wr r (pcel ⟨0, 0⟩) 37)) (fun _ wr => lenAt wr b)
  case atStart => exact ⟨j, Nat.le_refl _, hid ⟨HW0.out, HP.out, HG.out, HV.out⟩⟩
  case round =>
    clear HV HG HW0 HB
    obtain ⟨j', hjj, HL⟩ := hrel
    have hlt := HL.out.2.1.lt HL.out.1.jl HK.out.l HPL.out
    have HLT := hid hlt
    have HM := hid HL.out.1.lenAt
    obtain ⟨a, c, hv, hc1, hc2, hd, hag, hal⟩ := HL.out.1.at_ hlt
    have HV := hid hv
    obtain ⟨k, hk⟩ : ∃ k, k + 1 = ps.length - 1 - j' := ⟨ps.length - 1 - j' - 1, by omega⟩
    have HKK := hid hk
    rw [← hk] at hv hc1
    obtain ⟨v0, vf⟩ := hv.read1
    have HS := hid (hv)
    obtain ⟨d0, d1, d2, d3, d4, d5⟩ := hd
    have HD := hid (DAt.mk (a := a) (s := sdAt ps j') (W := wr) d0 d1 d2 d3 d4 d5)
    have hE0 : (sdAt ps j').b = posn ps j' := rfl
    have hE1 : (sdAt ps j').e = posn ps (j' + 1) := rfl
    rw [hE0] at d4
    rw [hE1] at d5
    unfold maxLen at hc2
    clear d0 d1 d2 d3 hv hE0 hE1 hlt hag hk
    have HMS : ∀ nq, lenAt ((wr.drewN nq).setCell ⟨b, 0, none⟩ (.slice (if c = 1 then some a else some ⟨a.block, a.off + 6, none⟩) k (c - 1))) b < lenAt wr b := fun nq => by
      rw [(HL.out.1.next (below_drewN (Below.refl _ _) nq) |>.step HLT.out ((HV.out).drewN nq) k (by have := HKK.out; omega)).lenAt, HM.out]
      have := HLT.out
      omega
    have nx : Past ps (j' + 1) p → ∀ nq, Hid (Wlk ((wr.drewN nq).setCell ⟨b, 0, none⟩ (.slice (if c = 1 then some a else some ⟨a.block, a.off + 6, none⟩) k (c - 1))) b g ps (j' + 1) ∧ Past ps (j' + 1) p ∧ Gr (yb b) (yb b) w ((wr.drewN nq).setCell ⟨b, 0, none⟩ (.slice (if c = 1 then some a else some ⟨a.block, a.off + 6, none⟩) k (c - 1))) ∧ Var ((wr.drewN nq).setCell ⟨b, 0, none⟩ (.slice (if c = 1 then some a else some ⟨a.block, a.off + 6, none⟩) k (c - 1))) r (pcel ⟨0, 0⟩) 37) := by
      intro hp nq
      exact hid ⟨HL.out.1.next (below_drewN (Below.refl _ _) nq) |>.step HLT.out ((HV.out).drewN nq) k (by have := HKK.out; omega), hp, (HL.out.2.2.1.next (below_drewN (Below.refl _ _) nq)).trans (Gr.yset _), (HL.out.2.2.2.drewN nq).far (p := ⟨b, 0, none⟩) (by show r ≠ b; have := HBL.out; have := HR.out; omega) _⟩
    have HSI := hid (sdAt_in HK.out.i (j := j') (by have := HK.out.n; have := HLT.out; omega))
    by_cases k1 : posn ps (j' + 1) < p
    · have HP' := hid (HL.out.2.1.step (good_f (.inl k1)))
      have HNX := nx HP'.out
      clear HSI HD nx
      generalize posn ps (j' + 1) = E1 at d5 k1
      generalize posn ps j' = E0 at d4
      go_upto_region 1 with fail
      go_quiet (fail)
      go_wp2_with fail
      go_roundw
      case rel => exact ⟨j' + 1, by omega, HNX _⟩
      case measure => exact HMS _
    · by_cases k2 : posn ps (j' + 1) = posn ps j'
      · have HP' := hid (HL.out.2.1.step (good_f (.inr k2.symm)))
        have HNX := nx HP'.out
        clear HSI HD nx
        generalize posn ps (j' + 1) = E1 at d5 k1 k2
        generalize posn ps j' = E0 at d4 k2
        subst k2
        go_upto_region 1 with fail
        go_quiet (fail)
        go_wp2_with fail
        go_roundw
        case rel => exact ⟨j' + 1, by omega, HNX _⟩
        case measure => exact HMS _
      · have HG := hid (good_t k1 k2)
        have HG0 := hid HG.out
        have k3 : (posn ps (j' + 1) == posn ps j') = false := by simpa using k2
        have HF := hid (HL.out.2.1.find HLT.out HG.out)
        have HGB := HG.out
        unfold good at HGB
        simp only [decide_eq_true_eq] at HGB
        have HC := hid (pointAt_any (sdAt ps j') p · HSI.out HGB.2 (HL.out.2.1.at_ H0.out) HGB.1)
        clear HSI nx HMS HGB
        have hE0 : (sdAt ps j').b = posn ps j' := rfl
        have hE1 : (sdAt ps j').e = posn ps (j' + 1) := rfl
        rw [← hE0] at d4 k3
        rw [← hE1] at d5 k1 k3
        clear hE0 hE1 k2
        generalize sdAt ps j' = s at HD HC d4 d5 k1 k3 HF HG
        go_upto_region 1 with fail
        go_quiet (fail)
        clear d4 d5
        obtain ⟨d0, d1, d2, d3, d4, d5⟩ := HD.out
        go_wp2_with fail
        (with_reducible refine (HC.out _).mono ?_); rintro e w5 ⟨rfl, hb⟩
        have HLX := hid (show Wlk w5 b g ps j' ∧ Past ps j' p ∧ Gr (yb b) (yb b) w w5 ∧ Var w5 r (pcel ⟨0, 0⟩) 37 from
          ⟨(HL.out.1.next (below_drewN (Below.refl _ _) nq)).next hb, HL.out.2.1, (HL.out.2.2.1.next (below_drewN (Below.refl _ _) nq)).next hb, (HL.out.2.2.2.drewN nq).next hb⟩)
        clear hb d0 d1 d2 d3 d4 d5 v0 vf HC HD HL
        generalize ptS s p = q at HF ⊢
        obtain ⟨x0, x1, xf⟩ := HLX.out.2.2.2.read2
        go_wp2_with fail
        have hbr : b ≠ r := by have := HBL.out; have := HR.out; omega
        have hgr : g ≠ r := by have := HLX.out.1.gb; have := HBL.out; have := HR.out; omega
        have hset : Var ((w5.setCell ⟨r, 0, none⟩ (.int .i64 q.x)).setCell ⟨r, 1, none⟩ (.int .i64 q.y)) r (pcel q) 37 := by
          have := (HLX.out.2.2.2.set (i := 0) (.int .i64 q.x)).set (i := 1) (.int .i64 q.y)
          simpa using this
        have hg1 : Gr (yb r) (yb r) w5 ((w5.setCell ⟨r, 0, none⟩ (.int .i64 q.x)).setCell ⟨r, 1, none⟩ (.int .i64 q.y)) := (Gr.set (n := 1) (c := 1)).trans (Gr.set (n := 1) (c := 1))
        refine retPt (B := r) (s := q) rfl rfl hset ⟨by rw [HF.out], j', hjj, HLT.out, HLX.out.1.gr hg1 ?_ ?_, HLX.out.2.1, HG0.out, ?_⟩
        · show some r ≠ some b
          simp; omega
        · show some r ≠ some g
          simp; omega
        · exact ((HLX.out.2.2.1).fresh (r := r) (by have := HR.out; omega)).fresh (by have := HR.out; omega)
end Go.Proofs.Ytjflgblplmgjlaa
