/- widen of package morph. -/
import Derived.Test.YtldbpabnfjnpbaaMNar
import Derived.BigQuiet
import Derived.Test.YtldbpabnfjnpbaaIns
namespace Go.Proofs.Ytldbpabnfjnpbaa
open Go Go.RowKit
set_option linter.unusedVariables false
set_option linter.unusedSimpArgs false

set_option maxHeartbeats 4000000 in
set_option maxRecDepth 100000 in
theorem widen_any (A : Option Addr) (ss : List Rn) (n c : Nat) (d : Int) (w : World) (hn : n = ss.length) (hs : Runs w A ss) (hc : chk ss = 0) (hd0 : 0 ≤ d) (hd1 : d ≤ 64) :
    Calls Try.prog 63 #[.slice A n c, .int .i64 d] w (GivesL (wideL d ss) w) := by
  have HS := hid hs
  have HN := hid hn
  have HC := hid hc
  have hnb : n ≤ 1000000000 := by rw [hn]; exact chk_len hc
  clear hs hn hc
  go_enter Try.func63, Try.ntmps63
  go_wp2_with fail
  go_loopw [5, 11] (fun s5 sI wr => LRel wideL d ss n w s5 sI wr) (fun _ sI _ => n - (intOf sI).toNat)
  case atStart => exact ⟨0, _, rfl, Nat.zero_le _, rfl, hid ⟨OwnR.nil _ _, Below.refl _ _⟩⟩
  case round =>
    obtain ⟨k, v, hv, hkn, rfl, HL⟩ := hrel
    have hv' := hv.symm
    clear hv
    subst hv'
    by_cases hlt : k < n
    · have hlz : k < ss.length := by rw [← HN.out]; exact hlt
      obtain ⟨a, rfl, hal, hsa⟩ := (HS.out.next HL.out.2).at_ hlz
      have hkn2 : k ≤ ss.length := Nat.le_of_lt hlz
      have HT := hid (show wideL d (ss.take (k + 1)) = wideS d (wideL d (ss.take k)) ss[k] by rw [List.take_succ_eq_append_getElem hlz, wideL_snoc])
      have hrin := (rnok_iff.1 ((chk_all HC.out).1 _ (List.getElem_mem hlz))).1
      have hlen : (wideL d (ss.take k)).length ≤ 5000000000 := by have := (wide_take hd0 HC.out k hkn2).n; rw [List.length_take] at this; have := HN.out; omega
      have HH := hid (show Hid (RnOk ss[k]) from hid ((chk_all HC.out).1 _ (List.getElem_mem hlz)))
      generalize ss[k] = r at hsa HT hrin HH
      obtain ⟨c0, c1, c2⟩ := hsa
      obtain ⟨⟨y0, y1⟩, ⟨a0', a1'⟩, ⟨b0', b1'⟩⟩ := hrin
      go_upto_region 5 with fail
      obtain ⟨W2, hW2⟩ : ∃ W2, W2 = wr.alloc (.cells (cel r) 37) := ⟨_, rfl⟩
      have HV := hid (show Var W2 wr.heap.size (cel r) 37 by rw [hW2]; exact Var.new _ _ _ _ rfl)
      have hb2 : Below wr.heap.size wr W2 := by rw [hW2]; exact (Below.refl _ _).alloc (Nat.le_refl _) _
      rw [← hW2]
      clear hW2 c0 c1 c2
      rename_i Kn hKn
      refine wp_region_lit ?_
      refine sq_start (n := 64) rfl fun a0 hs0 => ?_
      have ha0 := ((((((((((((hs0.pin 0 (v := .slice (some a) n c) rfl).pin 1 (v := .int .i64 d) rfl).pin 2 (v := undef) rfl).pin 3 (v := undef) rfl).pin 4 (v := .slice none 0 0) rfl).pin 5 (v := v) rfl).pin 6 (v := undef) rfl).pin 7 (v := .pointer (some (⟨wr.heap.size, 0, none⟩))) rfl).pin 9 (v := .slice (some a) n c) rfl).pin 10 (v := .int .i64 n) rfl).pin 11 (v := .int .i64 (k : Int)) rfl).pin 63 (v := undef) rfl)
      clear hs0
      generalize (fun i => Array.getD _ i undef) = g0 at ha0
      refine sq_val (v := .pointer (some (⟨wr.heap.size, 1, none⟩))) ha0 rfl (run_fld1 (a := ⟨wr.heap.size, 0, none⟩) rfl) fun a1 ha1 => ?_
      refine sq_val (v := .int .i64 r.a) ha1 rfl (run_loadInt rfl (HV.out.cell 1)) fun a2 ha2 => ?_
      refine sq_val (v := .int .i64 d) ha2 rfl (rfl) fun a3 ha3 => ?_
      refine sq_val (v := .int .i64 (r.a - d)) ha3 rfl (run_sub rfl rfl (by unfold Rg; omega)) fun a4 ha4 => ?_
      refine sq_val (v := .int .i64 (max (r.a - d) (-8192))) ha4 rfl (run_max2 rfl rfl) fun a5 ha5 => ?_
      refine sq_val (v := .pointer (some (⟨wr.heap.size, 2, none⟩))) ha5 rfl (run_fld2 (a := ⟨wr.heap.size, 0, none⟩) rfl) fun a6 ha6 => ?_
      refine sq_val (v := .int .i64 r.b) ha6 rfl (run_loadInt rfl (HV.out.cell 2)) fun a7 ha7 => ?_
      refine sq_val (v := .int .i64 d) ha7 rfl (rfl) fun a8 ha8 => ?_
      refine sq_val (v := .int .i64 (r.b + d)) ha8 rfl (run_add rfl rfl (by unfold Rg; omega)) fun a9 ha9 => ?_
      refine sq_val (v := .int .i64 (min (r.b + d) 8192)) ha9 rfl (run_min2 rfl rfl) fun a10 ha10 => ?_
      refine sq_val (v := .pointer (some (⟨wr.heap.size, 1, none⟩))) ha10 rfl (run_fld1 (a := ⟨wr.heap.size, 0, none⟩) rfl) fun a11 ha11 => ?_
      refine sq_skip ha11 (run_storeInt rfl rfl (HV.out.cell 1) (HV.out.free 1)) fun a12 ha12 => ?_
      have HVx := hid (HV.out.set (i := 1) (.int .i64 (max (r.a - d) (-8192))))
      refine sq_val (v := .pointer (some (⟨wr.heap.size, 2, none⟩))) ha12 rfl (run_fld2 (a := ⟨wr.heap.size, 0, none⟩) rfl) fun a13 ha13 => ?_
      refine sq_skip ha13 (run_storeInt rfl rfl (HVx.out.cell 2) (HVx.out.free 2)) fun a14 ha14 => ?_
      refine wpList_nil ?_
      refine hKn _ _ ?_
      obtain ⟨g9, hg9, k0, k1, k2, k3, k4, k5, k6, k7, k9, k10, k11, k63⟩ : ∃ g9, Is a14 64 g9 ∧ g9 0 = .slice (some a) n c ∧ g9 1 = .int .i64 d ∧ g9 2 = undef ∧ g9 3 = undef ∧ g9 4 = .slice none 0 0 ∧ g9 5 = v ∧ g9 6 = undef ∧ g9 7 = .pointer (some (⟨wr.heap.size, 0, none⟩)) ∧ g9 9 = .slice (some a) n c ∧ g9 10 = .int .i64 n ∧ g9 11 = .int .i64 (k : Int) ∧ g9 63 = undef := ⟨_, ha14, rfl, rfl, rfl, rfl, rfl, rfl, rfl, rfl, rfl, rfl, rfl, rfl⟩
      have hw := hg9.whole
      rw [show ((List.range 64).map g9).toArray = #[g9 0, g9 1, g9 2, g9 3, g9 4, g9 5, g9 6, g9 7, g9 8, g9 9, g9 10, g9 11, g9 12, g9 13, g9 14, g9 15, g9 16, g9 17, g9 18, g9 19, g9 20, g9 21, g9 22, g9 23, g9 24, g9 25, g9 26, g9 27, g9 28, g9 29, g9 30, g9 31, g9 32, g9 33, g9 34, g9 35, g9 36, g9 37, g9 38, g9 39, g9 40, g9 41, g9 42, g9 43, g9 44, g9 45, g9 46, g9 47, g9 48, g9 49, g9 50, g9 51, g9 52, g9 53, g9 54, g9 55, g9 56, g9 57, g9 58, g9 59, g9 60, g9 61, g9 62, g9 63] from rfl] at hw
      rw [k0, k1, k2, k3, k4, k5, k6, k7, k9, k10, k11, k63] at hw
      subst hw
      clear hg9 k0 k1 k2 k3 k4 k5 k6 k7 k9 k10 k11 k63
      clear ha0 ha1 ha2 ha3 ha4 ha5 ha6 ha7 ha8 ha9 ha10 ha11 ha12 ha13 ha14 hKn Kn
      have HV2 := hid (show Var _ wr.heap.size (cel ⟨r.y, max (r.a - d) (-8192), min (r.b + d) 8192⟩) 37 from (HV.out.set (i := 1) (.int .i64 (max (r.a - d) (-8192)))).set (i := 2) (.int .i64 (min (r.b + d) 8192)))
      have HB3 := hid ((hb2.setCell (p := ⟨wr.heap.size, 1, none⟩) (Nat.le_refl _) (.int .i64 (max (r.a - d) (-8192)))).setCell (p := ⟨wr.heap.size, 2, none⟩) (Nat.le_refl _) (.int .i64 (min (r.b + d) 8192)))
      generalize World.setCell _ ⟨wr.heap.size, 2, none⟩ _ = W3 at HV2 HB3 ⊢
      have HO3 := hid (HL.out.1.next HB3.out)
      have HBW := hid (below_next HL.out.2 HB3.out)
      clear HV HVx hb2
      obtain ⟨p0, p1, p2, pf⟩ := HV2.out.read3
      obtain ⟨acc, hacc⟩ : ∃ acc, acc = wideL d (ss.take k) := ⟨_, rfl⟩
      rw [← hacc] at HT HO3 hlen
      have hb1 := below_next HL.out.2 HB3.out
      clear HL hacc hb1
      generalize hNA : max (r.a - d) (-8192) = ra at p1
      generalize hNB : min (r.b + d) 8192 = rb at p2
      replace p0 : W3.cell? ⟨wr.heap.size, 0, none⟩ = some (.int .i64 r.y) := p0
      replace p1 : W3.cell? ⟨wr.heap.size, 1, none⟩ = some (.int .i64 ra) := p1
      replace p2 : W3.cell? ⟨wr.heap.size, 2, none⟩ = some (.int .i64 rb) := p2
      have HNA := hid hNA
      have HNB := hid hNB
      clear hNA hNB
      rcases List.eq_nil_or_concat acc with hx | ⟨zs, l, hx⟩
      · have HOK := hid (show wideL d (ss.take (k + 1)) = acc ++ [⟨r.y, max (r.a - d) (-8192), min (r.b + d) 8192⟩] by rw [HT.out, hx]; rfl)
        obtain ⟨A5, c5, hv5, -⟩ := HO3.out.is
        rw [hx] at hv5
        have hv6 : v = .slice A5 0 c5 := hv5
        subst hv6
        clear hv5 hx
        go_upto_region 7 with fail
        go_quiet (fail)
        have HBq := hid (below_drewN (Below.refl W3.heap.size W3) nq)
        generalize World.drewN W3 _ = W4 at HBq ⊢
        have HO4 := hid (HO3.out.next HBq.out)
        have HV4 := hid (HV2.out.next HBq.out)
        have HBW4 := hid (below_next HBW.out HBq.out)
        obtain ⟨v', w4, g1, g2, g3⟩ := append_rn (ty := 22) (s := ⟨r.y, max (r.a - d) (-8192), min (r.b + d) 8192⟩) HBW4.out.size HO4.out hlen
        have H1 := hid g1
        have HL4 := hid (show OwnR w4 w.heap.size v' (wideL d (ss.take (k + 1))) ∧ Below w.heap.size w w4 from ⟨by rw [HOK.out]; exact g2, HBW4.out.grown g3.g HBW4.out.size (fun j hj => (HO4.out.ge j hj).1)⟩)
        clear g1 g2 g3
        obtain ⟨s, hs⟩ : ∃ s : Rn, s = ⟨r.y, max (r.a - d) (-8192), min (r.b + d) 8192⟩ := ⟨_, rfl⟩
        have HV3 := hid (show Var W4 wr.heap.size (cel s) 37 by rw [hs]; exact HV4.out)
        rw [← hs] at H1
        clear hs
        go_upto_region 9 with fail
        rename_i Kn hKn
        refine wp_region_lit ?_
        refine sq_start (n := 64) rfl fun a0 hs0 => ?_
        have ha0 := ((((((((((((hs0.pin 0 (v := .slice (some a) n c) rfl).pin 1 (v := .int .i64 d) rfl).pin 2 (v := undef) rfl).pin 3 (v := undef) rfl).pin 4 (v := .slice none 0 0) rfl).pin 5 (v := .slice A5 0 c5) rfl).pin 6 (v := undef) rfl).pin 7 (v := .pointer (some (⟨wr.heap.size, 0, none⟩))) rfl).pin 9 (v := .slice (some a) n c) rfl).pin 10 (v := .int .i64 n) rfl).pin 11 (v := .int .i64 (k : Int)) rfl).pin 63 (v := undef) rfl)
        clear hs0
        generalize (fun i => Array.getD _ i undef) = g0 at ha0
        refine sq_val (v := .slice A5 0 c5) ha0 rfl (rfl) fun a1 ha1 => ?_
        refine sq_val (v := rn s) ha1 rfl (run_loadRn rfl HV3.out.rnAt) fun a2 ha2 => ?_
        refine sq_val (v := .slice (some ⟨W4.heap.size, 0, none⟩) 1 1) ha2 rfl (run_litRn rfl) fun a3 ha3 => ?_
        refine sq_val (v := v') ha3 rfl (run_append rfl rfl H1.out) fun a4 ha4 => ?_
        refine sq_val (v := v') ha4 rfl (rfl) fun a5 ha5 => ?_
        refine wpList_nil ?_
        refine hKn _ _ ?_
        obtain ⟨g9, hg9, k0, k1, k2, k3, k4, k5, k6, k7, k9, k10, k11, k63⟩ : ∃ g9, Is a5 64 g9 ∧ g9 0 = .slice (some a) n c ∧ g9 1 = .int .i64 d ∧ g9 2 = undef ∧ g9 3 = undef ∧ g9 4 = .slice none 0 0 ∧ g9 5 = v' ∧ g9 6 = undef ∧ g9 7 = .pointer (some (⟨wr.heap.size, 0, none⟩)) ∧ g9 9 = .slice (some a) n c ∧ g9 10 = .int .i64 n ∧ g9 11 = .int .i64 (k : Int) ∧ g9 63 = undef := ⟨_, ha5, rfl, rfl, rfl, rfl, rfl, rfl, rfl, rfl, rfl, rfl, rfl, rfl⟩
        have hw := hg9.whole
        rw [show ((List.range 64).map g9).toArray = #[g9 0, g9 1, g9 2, g9 3, g9 4, g9 5, g9 6, g9 7, g9 8, g9 9, g9 10, g9 11, g9 12, g9 13, g9 14, g9 15, g9 16, g9 17, g9 18, g9 19, g9 20, g9 21, g9 22, g9 23, g9 24, g9 25, g9 26, g9 27, g9 28, g9 29, g9 30, g9 31, g9 32, g9 33, g9 34, g9 35, g9 36, g9 37, g9 38, g9 39, g9 40, g9 41, g9 42, g9 43, g9 44, g9 45, g9 46, g9 47, g9 48, g9 49, g9 50, g9 51, g9 52, g9 53, g9 54, g9 55, g9 56, g9 57, g9 58, g9 59, g9 60, g9 61, g9 62, g9 63] from rfl] at hw
        rw [k0, k1, k2, k3, k4, k5, k6, k7, k9, k10, k11, k63] at hw
        subst hw
        clear hg9 k0 k1 k2 k3 k4 k5 k6 k7 k9 k10 k11 k63
        clear ha0 ha1 ha2 ha3 ha4 ha5 hKn
        go_wp2_with fail
        go_roundw
        case rel => exact ⟨k + 1, v', rfl, by omega, by go_num, HL4⟩
        case measure => simp [intOf]; omega
      · rw [List.concat_eq_append] at hx
        have hne : acc ≠ [] := by rw [hx]; simp
        have hpos : 1 ≤ acc.length := List.length_pos_iff.2 hne
        have hpos0 : (0 : Int) ≤ (acc.length : Int) - 1 := by omega
        have hpos1 : (acc.length : Int) - 1 < (acc.length : Int) := by omega
        have hpos2 : (1 : Int) ≤ (acc.length : Int) := by omega
        have HJ := hid (show wideL d (ss.take (k + 1)) = if l.y = r.y ∧ max (r.a - d) (-8192) ≤ l.b then setEnd acc (min (r.b + d) 8192) else acc ++ [⟨r.y, max (r.a - d) (-8192), min (r.b + d) 8192⟩] by rw [HT.out]; unfold wideS; rw [hx]; simp)
        obtain ⟨g, c5, hv5, hg1, hg2, hg3⟩ := HO3.out.one hne
        have hat : RnAt W3 ((⟨g, 0, none⟩ : Addr).add ((acc.length - 1) * 3)) l := by
          obtain ⟨A', c', hv2, hr⟩ := HO3.out.is
          rw [hv5] at hv2
          cases hv2
          obtain ⟨a', ha, -, hcc⟩ := hr hne
          cases ha
          exact hcc _ l (by rw [hx]; simp)
        obtain ⟨q0, -, q2⟩ := hat
        rw [addr0] at q0
        rw [addr0] at q2
        simp only at q2
        have k1 := World.ownsRow.frozenAt (by have h := HO3.out; rw [hv5] at h; exact h) ((acc.length - 1) * 3 + 2)
        have HX := hid hx
        have HNE := hid hne
        subst hv5
        clear hx hne
        by_cases e1 : l.y = r.y
        · by_cases e2 : ra ≤ l.b
          · have HJ1 := hid (HJ.out.trans (if_pos ⟨e1, by rw [HNA.out]; exact e2⟩))
            clear k1
            rw [e1] at q0
            clear HJ e1
            go_upto_region 7 with fail
            go_quiet (fail)
            have HBq := hid (below_drewN (Below.refl W3.heap.size W3) nq)
            generalize World.drewN W3 _ = W4 at HBq ⊢
            have HO4 := hid (HO3.out.next HBq.out)
            have HV4 := hid (HV2.out.next HBq.out)
            have HBW4 := hid (below_next HBW.out HBq.out)
            obtain ⟨p0, p1, p2, pf⟩ := HV4.out.read3
            have p2' := p2.trans (show _ = some (Value.int .i64 rb) by rw [← HNB.out])
            clear p2
            have q2' := (HBq.out.cell (p := ⟨g, (acc.length - 1) * 3 + 2, none⟩) hg2).trans q2
            clear q0 q2
            have k1 := World.ownsRow.frozenAt HO4.out ((acc.length - 1) * 3 + 2)
            have HL4 := hid (show OwnR (W4.setCell ⟨g, (acc.length - 1) * 3 + 2, none⟩ (.int .i64 rb)) w.heap.size (.slice (some ⟨g, 0, none⟩) acc.length c5) (wideL d (ss.take (k + 1))) ∧ Below w.heap.size w (W4.setCell ⟨g, (acc.length - 1) * 3 + 2, none⟩ (.int .i64 rb)) from
              ⟨by rw [HJ1.out, HNB.out]; exact HO4.out.setEnd HNE.out _, HBW4.out.setCell (p := ⟨g, (acc.length - 1) * 3 + 2, none⟩) hg1 _⟩)
            go_wp2_with fail
            go_roundw
            case rel => exact ⟨k + 1, _, rfl, by omega, by go_num, HL4⟩
            case measure => simp [intOf]; omega
          · have HOK := hid (HJ.out.trans (if_neg (fun k => e2 (by rw [← HNA.out]; exact k.2))))
            have e2' : decide (ra ≤ l.b) = false := decide_eq_false e2
            rw [e1] at q0
            clear HJ e1 e2
            go_upto_region 7 with fail
            go_quiet (fail)
            have HBq := hid (below_drewN (Below.refl W3.heap.size W3) nq)
            generalize World.drewN W3 _ = W4 at HBq ⊢
            have HO4 := hid (HO3.out.next HBq.out)
            have HV4 := hid (HV2.out.next HBq.out)
            have HBW4 := hid (below_next HBW.out HBq.out)
            obtain ⟨v', w4, g1, g2, g3⟩ := append_rn (ty := 22) (s := ⟨r.y, max (r.a - d) (-8192), min (r.b + d) 8192⟩) HBW4.out.size HO4.out hlen
            have H1 := hid g1
            have HL4 := hid (show OwnR w4 w.heap.size v' (wideL d (ss.take (k + 1))) ∧ Below w.heap.size w w4 from ⟨by rw [HOK.out]; exact g2, HBW4.out.grown g3.g HBW4.out.size (fun j hj => (HO4.out.ge j hj).1)⟩)
            clear g1 g2 g3
            obtain ⟨s, hs⟩ : ∃ s : Rn, s = ⟨r.y, max (r.a - d) (-8192), min (r.b + d) 8192⟩ := ⟨_, rfl⟩
            have HV3 := hid (show Var W4 wr.heap.size (cel s) 37 by rw [hs]; exact HV4.out)
            rw [← hs] at H1
            clear hs
            go_upto_region 9 with fail
            rename_i Kn hKn
            refine wp_region_lit ?_
            refine sq_start (n := 64) rfl fun a0 hs0 => ?_
            have ha0 := ((((((((((((hs0.pin 0 (v := .slice (some a) n c) rfl).pin 1 (v := .int .i64 d) rfl).pin 2 (v := undef) rfl).pin 3 (v := undef) rfl).pin 4 (v := .slice none 0 0) rfl).pin 5 (v := .slice (some ⟨g, 0, none⟩) acc.length c5) rfl).pin 6 (v := undef) rfl).pin 7 (v := .pointer (some (⟨wr.heap.size, 0, none⟩))) rfl).pin 9 (v := .slice (some a) n c) rfl).pin 10 (v := .int .i64 n) rfl).pin 11 (v := .int .i64 (k : Int)) rfl).pin 63 (v := undef) rfl)
            clear hs0
            generalize (fun i => Array.getD _ i undef) = g0 at ha0
            refine sq_val (v := .slice (some ⟨g, 0, none⟩) acc.length c5) ha0 rfl (rfl) fun a1 ha1 => ?_
            refine sq_val (v := rn s) ha1 rfl (run_loadRn rfl HV3.out.rnAt) fun a2 ha2 => ?_
            refine sq_val (v := .slice (some ⟨W4.heap.size, 0, none⟩) 1 1) ha2 rfl (run_litRn rfl) fun a3 ha3 => ?_
            refine sq_val (v := v') ha3 rfl (run_append rfl rfl H1.out) fun a4 ha4 => ?_
            refine sq_val (v := v') ha4 rfl (rfl) fun a5 ha5 => ?_
            refine wpList_nil ?_
            refine hKn _ _ ?_
            obtain ⟨g9, hg9, k0, k1, k2, k3, k4, k5, k6, k7, k9, k10, k11, k63⟩ : ∃ g9, Is a5 64 g9 ∧ g9 0 = .slice (some a) n c ∧ g9 1 = .int .i64 d ∧ g9 2 = undef ∧ g9 3 = undef ∧ g9 4 = .slice none 0 0 ∧ g9 5 = v' ∧ g9 6 = undef ∧ g9 7 = .pointer (some (⟨wr.heap.size, 0, none⟩)) ∧ g9 9 = .slice (some a) n c ∧ g9 10 = .int .i64 n ∧ g9 11 = .int .i64 (k : Int) ∧ g9 63 = undef := ⟨_, ha5, rfl, rfl, rfl, rfl, rfl, rfl, rfl, rfl, rfl, rfl, rfl, rfl⟩
            have hw := hg9.whole
            rw [show ((List.range 64).map g9).toArray = #[g9 0, g9 1, g9 2, g9 3, g9 4, g9 5, g9 6, g9 7, g9 8, g9 9, g9 10, g9 11, g9 12, g9 13, g9 14, g9 15, g9 16, g9 17, g9 18, g9 19, g9 20, g9 21, g9 22, g9 23, g9 24, g9 25, g9 26, g9 27, g9 28, g9 29, g9 30, g9 31, g9 32, g9 33, g9 34, g9 35, g9 36, g9 37, g9 38, g9 39, g9 40, g9 41, g9 42, g9 43, g9 44, g9 45, g9 46, g9 47, g9 48, g9 49, g9 50, g9 51, g9 52, g9 53, g9 54, g9 55, g9 56, g9 57, g9 58, g9 59, g9 60, g9 61, g9 62, g9 63] from rfl] at hw
            rw [k0, k1, k2, k3, k4, k5, k6, k7, k9, k10, k11, k63] at hw
            subst hw
            clear hg9 k0 k1 k2 k3 k4 k5 k6 k7 k9 k10 k11 k63
            clear ha0 ha1 ha2 ha3 ha4 ha5 hKn
            go_wp2_with fail
            go_roundw
            case rel => exact ⟨k + 1, v', rfl, by omega, by go_num, HL4⟩
            case measure => simp [intOf]; omega
        · have HOK := hid (HJ.out.trans (if_neg (fun k => e1 k.1)))
          have e1' : (l.y == r.y) = false := by simpa using e1
          clear HJ e1
          go_upto_region 7 with fail
          go_quiet (fail)
          have HBq := hid (below_drewN (Below.refl W3.heap.size W3) nq)
          generalize World.drewN W3 _ = W4 at HBq ⊢
          have HO4 := hid (HO3.out.next HBq.out)
          have HV4 := hid (HV2.out.next HBq.out)
          have HBW4 := hid (below_next HBW.out HBq.out)
          obtain ⟨v', w4, g1, g2, g3⟩ := append_rn (ty := 22) (s := ⟨r.y, max (r.a - d) (-8192), min (r.b + d) 8192⟩) HBW4.out.size HO4.out hlen
          have H1 := hid g1
          have HL4 := hid (show OwnR w4 w.heap.size v' (wideL d (ss.take (k + 1))) ∧ Below w.heap.size w w4 from ⟨by rw [HOK.out]; exact g2, HBW4.out.grown g3.g HBW4.out.size (fun j hj => (HO4.out.ge j hj).1)⟩)
          clear g1 g2 g3
          obtain ⟨s, hs⟩ : ∃ s : Rn, s = ⟨r.y, max (r.a - d) (-8192), min (r.b + d) 8192⟩ := ⟨_, rfl⟩
          have HV3 := hid (show Var W4 wr.heap.size (cel s) 37 by rw [hs]; exact HV4.out)
          rw [← hs] at H1
          clear hs
          go_upto_region 9 with fail
          rename_i Kn hKn
          refine wp_region_lit ?_
          refine sq_start (n := 64) rfl fun a0 hs0 => ?_
          have ha0 := ((((((((((((hs0.pin 0 (v := .slice (some a) n c) rfl).pin 1 (v := .int .i64 d) rfl).pin 2 (v := undef) rfl).pin 3 (v := undef) rfl).pin 4 (v := .slice none 0 0) rfl).pin 5 (v := .slice (some ⟨g, 0, none⟩) acc.length c5) rfl).pin 6 (v := undef) rfl).pin 7 (v := .pointer (some (⟨wr.heap.size, 0, none⟩))) rfl).pin 9 (v := .slice (some a) n c) rfl).pin 10 (v := .int .i64 n) rfl).pin 11 (v := .int .i64 (k : Int)) rfl).pin 63 (v := undef) rfl)
          clear hs0
          generalize (fun i => Array.getD _ i undef) = g0 at ha0
          refine sq_val (v := .slice (some ⟨g, 0, none⟩) acc.length c5) ha0 rfl (rfl) fun a1 ha1 => ?_
          refine sq_val (v := rn s) ha1 rfl (run_loadRn rfl HV3.out.rnAt) fun a2 ha2 => ?_
          refine sq_val (v := .slice (some ⟨W4.heap.size, 0, none⟩) 1 1) ha2 rfl (run_litRn rfl) fun a3 ha3 => ?_
          refine sq_val (v := v') ha3 rfl (run_append rfl rfl H1.out) fun a4 ha4 => ?_
          refine sq_val (v := v') ha4 rfl (rfl) fun a5 ha5 => ?_
          refine wpList_nil ?_
          refine hKn _ _ ?_
          obtain ⟨g9, hg9, k0, k1, k2, k3, k4, k5, k6, k7, k9, k10, k11, k63⟩ : ∃ g9, Is a5 64 g9 ∧ g9 0 = .slice (some a) n c ∧ g9 1 = .int .i64 d ∧ g9 2 = undef ∧ g9 3 = undef ∧ g9 4 = .slice none 0 0 ∧ g9 5 = v' ∧ g9 6 = undef ∧ g9 7 = .pointer (some (⟨wr.heap.size, 0, none⟩)) ∧ g9 9 = .slice (some a) n c ∧ g9 10 = .int .i64 n ∧ g9 11 = .int .i64 (k : Int) ∧ g9 63 = undef := ⟨_, ha5, rfl, rfl, rfl, rfl, rfl, rfl, rfl, rfl, rfl, rfl, rfl, rfl⟩
          have hw := hg9.whole
          rw [show ((List.range 64).map g9).toArray = #[g9 0, g9 1, g9 2, g9 3, g9 4, g9 5, g9 6, g9 7, g9 8, g9 9, g9 10, g9 11, g9 12, g9 13, g9 14, g9 15, g9 16, g9 17, g9 18, g9 19, g9 20, g9 21, g9 22, g9 23, g9 24, g9 25, g9 26, g9 27, g9 28, g9 29, g9 30, g9 31, g9 32, g9 33, g9 34, g9 35, g9 36, g9 37, g9 38, g9 39, g9 40, g9 41, g9 42, g9 43, g9 44, g9 45, g9 46, g9 47, g9 48, g9 49, g9 50, g9 51, g9 52, g9 53, g9 54, g9 55, g9 56, g9 57, g9 58, g9 59, g9 60, g9 61, g9 62, g9 63] from rfl] at hw
          rw [k0, k1, k2, k3, k4, k5, k6, k7, k9, k10, k11, k63] at hw
          subst hw
          clear hg9 k0 k1 k2 k3 k4 k5 k6 k7 k9 k10 k11 k63
          clear ha0 ha1 ha2 ha3 ha4 ha5 hKn
          go_wp2_with fail
          go_roundw
          case rel => exact ⟨k + 1, v', rfl, by omega, by go_num, HL4⟩
          case measure => simp [intOf]; omega
    · have HE := hid (show wideL d (ss.take k) = wideL d ss by rw [List.take_of_length_le (by have := HN.out; omega)])
      go_wp2_with fail
      go_ret
      exact ⟨v, rfl, by rw [← HE.out]; exact HL.out.1, HL.out.2⟩

end Go.Proofs.Ytldbpabnfjnpbaa
