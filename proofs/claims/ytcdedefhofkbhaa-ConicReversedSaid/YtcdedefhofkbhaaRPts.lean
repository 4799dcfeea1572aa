/- What CurvePoints and SamePoints of the reference return. -/
import Derived.Test.YtcdedefhofkbhaaRFlat
import Derived.Test.YtcdedefhofkbhaaApd
namespace Go.Proofs.Ytcdedefhofkbhaa
open Go Go.RowKit
set_option linter.unusedVariables false
set_option linter.unusedSimpArgs false

theorem pts_take {c : Cu} {i : Nat} (h : i < c.dv) : c.pts.take (i + 1) = c.pts.take i ++ [c.at ((i + 1 : Nat) : Int) c.dv] := by
  rw [List.take_add_one, pts_at h]; rfl
set_option maxHeartbeats 800000 in
theorem rcp_line (p : P2) (s : Sg) (w : World) (h : s.k = 2) : Calls Try.prog 25 #[ptv p, seg s] w (GivesPts [⟨s.x, s.y⟩] w) := by
  have h2 : (s.k == 2) = true := by simp [h]
  clear h
  obtain ⟨W, hW⟩ : ∃ W, W = (w.alloc (.cells (pcel p) 23)).alloc (.cells (cel s) 25) := ⟨_, rfl⟩
  have HS := hid (show Var W (w.heap.size + 1) (cel s) 25 by rw [hW]; exact Var.new (w.alloc _) _ _ _ (by simp))
  have HB := hid (show Below w.heap.size w W by rw [hW]; exact below_alloc (below_alloc (Below.refl _ w) _) _)
  go_enter Try.func25, Try.ntmps25
  go_upto_region 1 with fail
  rw [← hW]
  clear hW
  obtain ⟨p0, p1, p2, p3, p4, p5, pf⟩ := HS.out.read6
  go_wp2_with fail
  go_ret
  exact ⟨_, rfl, own_of_var (ps := [⟨s.x, s.y⟩]) (Var.new W _ _ _ rfl) HB.out.size rfl (by show 1 ≤ maxLen; unfold maxLen; decide), below_alloc HB.out _⟩

theorem dvF_step (f : Nat → Bool) (a n : Nat) (b : Bool) (h : f n = b) : dvF f (a + 1) n = bif b then n else dvF f a (2 * n) := by
  show (if f n then n else dvF f a (2 * n)) = _
  rw [h]; cases b <;> rfl

set_option maxHeartbeats 3200000 in
set_option maxRecDepth 100000 in
theorem rcp_curve (p : P2) (s : Sg) (w : World) (h : s.k = 3) (hc : InC (cuOf p s)) : Calls Try.prog 25 #[ptv p, seg s] w (GivesPts (cuOf p s).pts w) := by
  have h2 : (s.k == 2) = false := by simp [h]
  have HC := hid hc
  clear h hc
  have HD := hid (dv_bd (cuOf p s))
  have HTK := fun i (h : i < (cuOf p s).dv) => hid (pts_take h)
  have HDD := hid (show (cuOf p s).dv = dvF (cuOf p s).flat 9 1 from rfl)
  have HL := hid (pts_length (cuOf p s))
  obtain ⟨b2, hb2⟩ : ∃ b, b = w.heap.size := ⟨_, rfl⟩
  obtain ⟨b3, hb3⟩ : ∃ b, b = w.heap.size + 1 := ⟨_, rfl⟩
  obtain ⟨W, hW⟩ : ∃ W, W = (w.alloc (.cells (pcel p) 23)).alloc (.cells (cel s) 25) := ⟨_, rfl⟩
  have HP := hid (show Var W b2 (pcel p) 23 by rw [hW, hb2]; exact (Var.new w _ _ _ rfl).alloc _)
  have HS := hid (show Var W b3 (cel s) 25 by rw [hW, hb3]; exact Var.new (w.alloc _) _ _ _ (by simp))
  have HB := hid (show Below w.heap.size w W by rw [hW]; exact below_alloc (below_alloc (Below.refl _ w) _) _)
  obtain ⟨B0, hB0⟩ : ∃ B, B = W.heap.size := ⟨_, rfl⟩
  have HLT := hid (show b2 < B0 ∧ b3 < B0 ∧ w.heap.size ≤ B0 by rw [hB0]; exact ⟨HP.out.lt, HS.out.lt, HB.out.size⟩)
  have HBW := hid (show Below B0 W W from Below.refl _ W)
  have HSZ := hid (show B0 ≤ W.heap.size by omega)
  clear hB0
  go_enter Try.func25, Try.ntmps25
  go_upto_region 1 with fail
  rw [← hW, ← hb3, ← hb2]
  clear hW hb2 hb3
  obtain ⟨p0, p1, p2, p3, p4, p5, pf⟩ := HS.out.read6
  go_wp2_with fail
  clear p0 p1 p2 p3 p4 p5 pf
  generalize hD : (cuOf p s).dv = D at HD HTK HDD HL ⊢
  have HDE := hid hD
  clear hD
  have hd1 := HD.out.1
  have hd2 := HD.out.2
  go_loopw [5, 6] (fun s5 s6 wr => ∃ n k : Nat, s5 = .int .i64 n ∧ s6 = .int .i64 k ∧ k ≤ 256 ∧ n ≤ 512 ∧ Hid ((k = 0 ∧ n = D) ∨ (∃ j, k = 2 ^ j ∧ j ≤ 8 ∧ n = dvF (cuOf p s).flat (8 - j) (2 ^ (j + 1)))) ∧ Hid (Var wr b2 (pcel p) 23) ∧ Hid (Var wr b3 (cel s) 25) ∧ Hid (Below B0 W wr)) (fun _ s6 _ => (intOf s6).toNat)
  case atStart => exact ⟨512, 256, rfl, rfl, by omega, by omega, hid (.inr ⟨8, by decide, by omega, rfl⟩), HP, HS, HBW⟩
  case round =>
    obtain ⟨n, k, rfl, rfl, hk256, hn512, HK, HP1, HS1, HB1⟩ := hrel
    clear HP HS HBW
    by_cases hk : k = 0
    · subst hk
      have hn : n = D := by
        rcases HK.out with ⟨_, h⟩ | ⟨j, h, _⟩
        · exact h
        · have := Nat.two_pow_pos j; omega
      subst hn
      clear HK
      go_upto_region 10 with fail
      rename_i Kn hKn
      refine wp_region_lit ?_
      refine sq_start (n := 41) rfl fun a0 hs0 => ?_
      have ha0 := ((((hs0.pin 2 (v := .pointer (some ⟨b2, 0, none⟩)) rfl).pin 3 (v := .pointer (some ⟨b3, 0, none⟩)) rfl).pin 5 (v := .int .i64 (n : Int)) rfl).pin 7 (v := .slice none 0 0) rfl)
      clear hs0
      generalize (fun i => Array.getD _ i undef) = g0 at ha0
      refine sq_val (v := .int .i64 1) ha0 rfl rfl fun a1 ha1 => ?_
      refine wpList_nil ?_
      refine hKn _ _ ?_
      obtain ⟨gB, hg9, k2, k3, k5, k7, k8⟩ : ∃ g9, Is a1 41 g9 ∧ g9 2 = .pointer (some ⟨b2, 0, none⟩) ∧ g9 3 = .pointer (some ⟨b3, 0, none⟩) ∧ g9 5 = .int .i64 (n : Int) ∧ g9 7 = .slice none 0 0 ∧ g9 8 = .int .i64 1 := ⟨_, ha1, rfl, rfl, rfl, rfl, rfl⟩
      have hw := hg9.whole
      rw [show ((List.range 41).map gB).toArray = #[gB 0, gB 1, gB 2, gB 3, gB 4, gB 5, gB 6, gB 7, gB 8, gB 9, gB 10, gB 11, gB 12, gB 13, gB 14, gB 15, gB 16, gB 17, gB 18, gB 19, gB 20, gB 21, gB 22, gB 23, gB 24, gB 25, gB 26, gB 27, gB 28, gB 29, gB 30, gB 31, gB 32, gB 33, gB 34, gB 35, gB 36, gB 37, gB 38, gB 39, gB 40] from rfl] at hw
      rw [k2, k3, k5, k7, k8] at hw
      subst hw
      clear hg9 k2 k3 k5 k7 k8
      clear ha0 ha1 hKn Kn
      have HS0 := hid (show B0 ≤ wr.heap.size from Nat.le_trans HSZ.out HB1.out.size)
      go_wp2_with fail
      go_loopw [7, 8] (fun s7 s8 wr => ∃ i : Nat, i ≤ n ∧ s8 = .int .i64 ((i : Int) + 1) ∧ Hid (wr.ownsRow B0 23 2 s7 i (pfl ((cuOf p s).pts.take i))) ∧ Hid (Var wr b2 (pcel p) 23) ∧ Hid (Var wr b3 (cel s) 25) ∧ Hid (Below B0 W wr) ∧ Hid (B0 ≤ wr.heap.size)) (fun _ s8 _ => n + 1 - (intOf s8).toNat)
      case atStart => exact ⟨0, Nat.zero_le _, rfl, hid (World.ownsRow_nil _ _ _ _), HP1, HS1, HB1, HS0⟩
      case round =>
        obtain ⟨i, hi, rfl, HO, HP2, HS2, HB2, HS3⟩ := hrel
        clear HP1 HS1 HB1 HS0
        by_cases hlt : i < n
        · have HKI : InK s.w ((i : Int) + 1) (n : Int) := inK HC.out.w hd1 (show n ≤ 1024 by omega) (show i + 1 ≤ n from hlt)
          go_upto_region 13 with fail
          rename_i Kn hKn
          refine wp_region_lit ?_
          refine sq_start (n := 41) rfl fun a0 hs0 => ?_
          have ha0 := ((((((((((((((((((((((((((((hs0.pin 0 (v := gB 0) rfl).pin 1 (v := gB 1) rfl).pin 2 (v := .pointer (some ⟨b2, 0, none⟩)) rfl).pin 3 (v := .pointer (some ⟨b3, 0, none⟩)) rfl).pin 4 (v := gB 4) rfl).pin 5 (v := .int .i64 ((n : Int))) rfl).pin 6 (v := gB 6) rfl).pin 9 (v := gB 9) rfl).pin 10 (v := gB 10) rfl).pin 11 (v := gB 11) rfl).pin 12 (v := gB 12) rfl).pin 13 (v := gB 13) rfl).pin 14 (v := gB 14) rfl).pin 15 (v := gB 15) rfl).pin 16 (v := gB 16) rfl).pin 17 (v := gB 17) rfl).pin 18 (v := gB 18) rfl).pin 19 (v := gB 19) rfl).pin 20 (v := gB 20) rfl).pin 21 (v := gB 21) rfl).pin 22 (v := gB 22) rfl).pin 23 (v := gB 23) rfl).pin 24 (v := gB 24) rfl).pin 25 (v := gB 25) rfl).pin 26 (v := gB 26) rfl).pin 40 (v := gB 40) rfl).pin 7 (v := u7) rfl).pin 8 (v := .int .i64 ((i : Int) + 1)) rfl)
          clear hs0
          generalize (fun i => Array.getD _ i undef) = g0 at ha0
          refine sq_val ha0 rfl rfl fun a1 ha1 => ?_
          refine sq_val ha1 rfl (run_loadPt rfl HP2.out) fun a2 ha2 => ?_
          refine sq_val ha2 rfl (run_loadSegV rfl HS2.out) fun a3 ha3 => ?_
          refine sq_val ha3 rfl rfl fun a4 ha4 => ?_
          refine sq_val ha4 rfl rfl fun a5 ha5 => ?_
          refine sq_call (v := undef) (G := fun v w1 => v = ptv ((cuOf p s).at ((i : Int) + 1) n) ∧ Below wr.heap.size wr w1) ha5 rfl (run_call4 rfl enters_rat) ((rat_any p s ((i : Int) + 1) n wr HC.out HKI).mono fun e w1 h => ⟨_, h.1, rfl, h.2⟩) fun v w1 a6 hv ha6 => ?_
          obtain ⟨hv, hb⟩ := hv
          subst hv
          refine sq_val ha6 rfl (run_litPt (a := ((cuOf p s).at ((i : Int) + 1) n).x) (b := ((cuOf p s).at ((i : Int) + 1) n).y) rfl) fun a7 ha7 => ?_
          have hB1 : B0 ≤ w1.heap.size := Nat.le_trans HS3.out hb.size
          obtain ⟨v8, w8, h81, h82, h83⟩ := append_pt (ty := 27) (p := (cuOf p s).at ((i : Int) + 1) n) hB1 (own_next HO.out hb) (by omega)
          refine sq_val (v := v8) ha7 rfl (F2.run_append rfl rfl h81) fun a8 ha8 => ?_
          refine sq_val (v := v8) ha8 rfl rfl fun a9 ha9 => ?_
          refine wpList_nil ?_
          refine hKn _ _ ?_
          obtain ⟨g9, hg9, k0, k1, k2, k3, k4, k5, k6, k9, k10, k11, k12, k13, k14, k15, k16, k17, k18, k19, k20, k21, k22, k23, k24, k25, k26, k40, k7, k8⟩ : ∃ g9, Is a9 41 g9 ∧ g9 0 = gB 0 ∧ g9 1 = gB 1 ∧ g9 2 = .pointer (some ⟨b2, 0, none⟩) ∧ g9 3 = .pointer (some ⟨b3, 0, none⟩) ∧ g9 4 = gB 4 ∧ g9 5 = .int .i64 ((n : Int)) ∧ g9 6 = gB 6 ∧ g9 9 = gB 9 ∧ g9 10 = gB 10 ∧ g9 11 = gB 11 ∧ g9 12 = gB 12 ∧ g9 13 = gB 13 ∧ g9 14 = gB 14 ∧ g9 15 = gB 15 ∧ g9 16 = gB 16 ∧ g9 17 = gB 17 ∧ g9 18 = gB 18 ∧ g9 19 = gB 19 ∧ g9 20 = gB 20 ∧ g9 21 = gB 21 ∧ g9 22 = gB 22 ∧ g9 23 = gB 23 ∧ g9 24 = gB 24 ∧ g9 25 = gB 25 ∧ g9 26 = gB 26 ∧ g9 40 = gB 40 ∧ g9 7 = v8 ∧ g9 8 = .int .i64 ((i : Int) + 1) := ⟨_, ha9, rfl, rfl, rfl, rfl, rfl, rfl, rfl, rfl, rfl, rfl, rfl, rfl, rfl, rfl, rfl, rfl, rfl, rfl, rfl, rfl, rfl, rfl, rfl, rfl, rfl, rfl, rfl, rfl⟩
          have hw := hg9.whole
          rw [show ((List.range 41).map g9).toArray = #[g9 0, g9 1, g9 2, g9 3, g9 4, g9 5, g9 6, g9 7, g9 8, g9 9, g9 10, g9 11, g9 12, g9 13, g9 14, g9 15, g9 16, g9 17, g9 18, g9 19, g9 20, g9 21, g9 22, g9 23, g9 24, g9 25, g9 26, g9 27, g9 28, g9 29, g9 30, g9 31, g9 32, g9 33, g9 34, g9 35, g9 36, g9 37, g9 38, g9 39, g9 40] from rfl] at hw
          rw [k0, k1, k2, k3, k4, k5, k6, k9, k10, k11, k12, k13, k14, k15, k16, k17, k18, k19, k20, k21, k22, k23, k24, k25, k26, k40, k7, k8] at hw
          subst hw
          clear hg9 k0 k1 k2 k3 k4 k5 k6 k9 k10 k11 k12 k13 k14 k15 k16 k17 k18 k19 k20 k21 k22 k23 k24 k25 k26 k40 k7 k8
          have HO8 := hid (show w8.ownsRow B0 23 2 v8 (i + 1) (pfl ((cuOf p s).pts.take (i + 1))) by rw [(HTK i hlt).out]; exact h82)
          have HBx := hid (show Below B0 wr w8 from (hb.mono HS3.out).trans h83)
          have HP8 := hid (HP2.out.below HBx.out HLT.out.1)
          have HS8 := hid (HS2.out.below HBx.out HLT.out.2.1)
          have HB8 := hid (HB2.out.trans HBx.out)
          have HZ8 := hid (show B0 ≤ w8.heap.size from Nat.le_trans hB1 h83.size)
          clear ha0 ha1 ha2 ha3 ha4 ha5 ha6 ha7 ha8 ha9 hKn Kn hb hB1 h81 h82 h83 HO HP2 HS2 HB2 HS3 HBx w1
          go_wp2_with fail
          go_roundw
          case rel => exact ⟨i + 1, by omega, by go_num, HO8, HP8, HS8, HB8, HZ8⟩
          case measure => simp [intOf]; omega
        · have hin : i = n := by omega
          subst hin
          clear hlt
          go_wp2_with fail
          go_ret
          refine ⟨_, rfl, ?_, HB.out.trans (HB2.out.mono HLT.out.2.2)⟩
          have := own_le HLT.out.2.2 HO.out
          rw [List.take_of_length_le (by rw [HL.out]; exact Nat.le_refl _)] at this
          rw [HL.out]
          exact this
    · obtain ⟨j, hj, hj8, hn⟩ : ∃ j, k = 2 ^ j ∧ j ≤ 8 ∧ n = dvF (cuOf p s).flat (8 - j) (2 ^ (j + 1)) := by
        rcases HK.out with ⟨h, _⟩ | h
        · exact absurd h hk
        · exact h
      have HJ := hid hj
      have HN := hid hn
      have hk1 : 1 ≤ k := by omega
      clear HK hj hn hk
      obtain ⟨p0, p1, p2, p3, p4, p5, pf⟩ := HS1.out.read6
      obtain ⟨q0, q1, qf⟩ := HP1.out.read2
      go_wp2_with fail
      clear p0 p1 p2 p3 p4 p5 pf q0 q1 qf
      (with_reducible refine (rflat_any p s k _ HC.out hk1 (by omega)).mono ?_); rintro e w1 ⟨rfl, hb⟩
      have HP2 := hid (HP1.out.next hb)
      have HS2 := hid (HS1.out.next hb)
      have HB2 := hid (HB1.out.trans (hb.mono (Nat.le_trans HSZ.out HB1.out.size)))
      clear hb HP1 HS1 HB1
      have HX := hid (show ∀ b, (cuOf p s).flat k = b → (k / 2 = 0 ∧ (bif b then k else n) = D) ∨ (∃ j, k / 2 = 2 ^ j ∧ j ≤ 8 ∧ (bif b then k else n) = dvF (cuOf p s).flat (8 - j) (2 ^ (j + 1))) from fun b hb => by
        have e1 := HJ.out
        have e2 := HN.out
        cases j with
        | zero =>
          refine .inl ⟨by omega, ?_⟩
          have : k = 1 := by simpa using e1
          subst this
          rw [HDD.out, dvF_step _ 8 1 b hb, e2]
        | succ j =>
          refine .inr ⟨j, by rw [e1, Nat.pow_succ]; omega, by omega, ?_⟩
          rw [show 8 - j = (8 - (j + 1)) + 1 by omega, dvF_step _ _ _ b (by rw [← e1]; exact hb), e2, ← e1, show 2 ^ (j + 1 + 1) = 2 * k by rw [e1, Nat.pow_succ]; omega])
      cases hf : (cuOf p s).flat k
      · have HX0 := hid (HX.out _ hf)
        clear hf HX HJ HN
        go_wp2_with fail
        go_roundw
        case rel => exact ⟨n, k / 2, rfl, congrArg (Value.int .i64) (Int.natCast_ediv k 2).symm, by omega, by omega, HX0, HP2, HS2, HB2⟩
        case measure => simp [intOf]; omega
      · have HX0 := hid (HX.out _ hf)
        clear hf HX HJ HN
        go_wp2_with fail
        go_roundw
        case rel => exact ⟨k, k / 2, rfl, congrArg (Value.int .i64) (Int.natCast_ediv k 2).symm, by omega, by omega, HX0, HP2, HS2, HB2⟩
        case measure => simp [intOf]; omega

end Go.Proofs.Ytcdedefhofkbhaa
