/- What Crop and At return. -/
import Derived.Test.YtdjjijkdalpggaaMirror
import Derived.Test.YtdjjijkdalpggaaMake
namespace Go.Proofs.Ytdjjijkdalpggaa
open Go Go.RowKit
set_option linter.unusedVariables false

set_option maxHeartbeats 1000000 in
theorem crop_range (W H : Nat) (x y cw ch : Int) (g n c : Nat) (w : World) (hW : 1 ≤ W ∧ W ≤ 1024) (hH : 1 ≤ H ∧ H ≤ 1024) (hn : n = W * H) (h : partB x cw W = false ∨ partB x cw W = true ∧ partB y ch H = false) :
    Calls Try.prog 18 #[grid W H (.slice (some ⟨g, 0, none⟩) n c), .int .i64 x, .int .i64 y, .int .i64 cw, .int .i64 ch] w (NoGrid 3 w) := by
  have hck : ∀ w, Calls Try.prog 25 #[grid W H (.slice (some ⟨g, 0, none⟩) n c)] w fun e w' => e = .returned (.int .i64 0) ∧ Below w.heap.size w w' := fun w => check_ok W H _ n c w (by omega) (by omega) (by rw [hn, Int.natCast_mul])
  have HCK := Lib.hid hck
  clear hn hck
  rcases h with h1 | ⟨h1, h2⟩
  all_goals
    go_enter Try.func18, Try.ntmps18
    go_wp2_with fail
    (with_reducible refine (HCK.out _).mono ?_); rintro e w1 ⟨rfl, hb1⟩
    obtain ⟨hc1, hf1⟩ := bcell hb1
    have HBW := hid (below_next (by repeat first | exact Below.refl _ _ | apply Below.drew | apply below_alloc : Below w.heap.size w _) hb1)
    clear hb1
    go_wp2_with (go_at_call 42; (with_reducible refine (part_any _ _ _ _ (by omega) (by omega)).mono ?_); rintro e w' ⟨rfl, rfl⟩)
    refine bodyPost_ret (v := .tuple #[grid 0 0 (.slice none 0 0), .int .i64 3]) (by simp [results, Try.results18, go_sem, *]) rfl ⟨rfl, ?_⟩
    exact ((HBW.out.setCell (p := ⟨w.heap.size + 1, 0, none⟩) (Nat.le_succ _) _).setCell (p := ⟨w.heap.size + 1, 1, none⟩) (Nat.le_succ _) _).setCell (p := ⟨w.heap.size + 1, 2, none⟩) (Nat.le_succ _) _

theorem at_ok (W H x y : Nat) (g n c : Nat) (F : Nat → Nat → Int) (w : World) (hp : Px w g 0 n (flat W F)) (hW : 1 ≤ W ∧ W ≤ 1024) (hH : 1 ≤ H ∧ H ≤ 1024) (hn : n = W * H) (hg : g < w.heap.size) (hx : x < W) (hy : y < H) :
    Calls Try.prog 28 #[grid W H (.slice (some ⟨g, 0, none⟩) n c), .int .i64 x, .int .i64 y] w fun e w' => e = .returned (.tuple #[.int .u8 (F x y), .int .i64 0]) ∧ Below w.heap.size w w' := by
  have HP := hid hp
  have hck : ∀ w, Calls Try.prog 25 #[grid W H (.slice (some ⟨g, 0, none⟩) n c)] w fun e w' => e = .returned (.int .i64 0) ∧ Below w.heap.size w w' := fun w => check_ok W H _ n c w (by omega) (by omega) (by rw [hn, Int.natCast_mul])
  have HCK := Lib.hid hck
  have h2 : ((y * W : Nat) : Int) = (y : Int) * W := Int.natCast_mul _ _
  have h1 : y * W + W ≤ n := by rw [hn, ← Nat.succ_mul, Nat.mul_comm W H]; exact Nat.mul_le_mul_right W (by omega)
  have hlin : (y : Int) * W + x < (n : Int) := by omega
  have hix : ((y : Int) * W + x).toNat = y * W + x := by omega
  have hcall : ∀ W', Below w.heap.size w W' → Calls Try.prog 35 #[grid W H (.slice (some ⟨g, 0, none⟩) n c), .int .i64 x, .int .i64 y] W' fun e w' => e = .returned (.int .u8 (F x y)) ∧ Below W'.heap.size W' w' := by
    intro W' hW'
    have := pixel_any W H x y g n c _ W' (HP.out.below hW' hg) (by omega) (by omega) (by omega) hlin (Nat.lt_of_lt_of_le hg hW'.size)
    rw [hix, flat_at F y hx] at this
    exact this
  have HC := Lib.hid hcall
  clear hp hn hck h2 h1 hlin hix hcall
  go_enter Try.func28, Try.ntmps28
  go_wp2_with fail
  (with_reducible refine (HCK.out _).mono ?_); rintro e w1 ⟨rfl, hb1⟩
  obtain ⟨hc1, hf1⟩ := bcell hb1
  have HBW := hid (below_next (by repeat first | exact Below.refl _ _ | apply Below.drew | apply below_alloc : Below w.heap.size w _) hb1)
  clear hb1
  go_wp2_with fail
  (with_reducible refine (HC.out _ HBW.out).mono ?_); rintro e w2 ⟨rfl, hb2⟩
  go_wp2
  go_ret2
  exact ⟨rfl, below_next HBW.out hb2⟩

theorem at_range (W H : Nat) (x y : Int) (g n c : Nat) (w : World) (hW : 1 ≤ W ∧ W ≤ 1024) (hH : 1 ≤ H ∧ H ≤ 1024) (hn : n = W * H) (hx : (W : Int) ≤ x) :
    Calls Try.prog 28 #[grid W H (.slice (some ⟨g, 0, none⟩) n c), .int .i64 x, .int .i64 y] w fun e w' => e = .returned (.tuple #[.int .u8 0, .int .i64 3]) ∧ Below w.heap.size w w' := by
  have hck : ∀ w, Calls Try.prog 25 #[grid W H (.slice (some ⟨g, 0, none⟩) n c)] w fun e w' => e = .returned (.int .i64 0) ∧ Below w.heap.size w w' := fun w => check_ok W H _ n c w (by omega) (by omega) (by rw [hn, Int.natCast_mul])
  have HCK := Lib.hid hck
  clear hn hck
  go_enter Try.func28, Try.ntmps28
  go_wp2_with fail
  (with_reducible refine (HCK.out _).mono ?_); rintro e w1 ⟨rfl, hb1⟩
  obtain ⟨hc1, hf1⟩ := bcell hb1
  have HBW := hid (below_next (by repeat first | exact Below.refl _ _ | apply Below.drew | apply below_alloc : Below w.heap.size w _) hb1)
  clear hb1
  go_wp2
  go_ret2
  exact ⟨rfl, HBW.out⟩

theorem part_yes {x n all : Int} (h : 0 ≤ x ∧ 1 ≤ n ∧ n ≤ all ∧ x ≤ all - n) : partB x n all = true := by
  unfold partB; simp [h]

set_option maxHeartbeats 2000000 in
theorem crop_ok (W H x y cw ch : Nat) (g n c : Nat) (F : Nat → Nat → Int) (w : World) (hp : Px w g 0 n (flat W F)) (hW : 1 ≤ W ∧ W ≤ 1024) (hH : 1 ≤ H ∧ H ≤ 1024) (hn : n = W * H) (hg : g < w.heap.size)
    (hx : x + cw ≤ W) (hy : y + ch ≤ H) (hcw : 1 ≤ cw) (hch : 1 ≤ ch) (hnc : n ≤ c) (hcm : c ≤ 9223372036854775807) :
    Calls Try.prog 18 #[grid W H (.slice (some ⟨g, 0, none⟩) n c), .int .i64 x, .int .i64 y, .int .i64 cw, .int .i64 ch] w (OkGrid cw ch (cw * ch) (flat cw fun i j => F (x + i) (y + j)) w) := by
  obtain ⟨i0, hi, hz0, hz1, hz2⟩ := info_parts info5
  have HP := hid hp
  have HN := hid hn
  have hck : ∀ w, Calls Try.prog 25 #[grid W H (.slice (some ⟨g, 0, none⟩) n c)] w fun e w' => e = .returned (.int .i64 0) ∧ Below w.heap.size w w' := fun w => check_ok W H _ n c w (by omega) (by omega) (by rw [hn, Int.natCast_mul])
  have HCK := Lib.hid hck
  have b1 : partB (x : Int) cw W = true := part_yes (by omega)
  have b2 : partB (y : Int) ch H = true := part_yes (by omega)
  have hn2 : n ≤ 1048576 := by rw [hn]; exact Nat.le_trans (Nat.mul_le_mul hW.2 hH.2) (by omega)
  obtain ⟨m1, m2⟩ := mul_bds (show (0 : Int) ≤ cw by omega) (show (cw : Int) ≤ 1024 by omega) (show (0 : Int) ≤ ch by omega) (show (ch : Int) ≤ 1024 by omega)
  obtain ⟨N, hNe⟩ : ∃ N : Nat, N = cw * ch := ⟨_, rfl⟩
  have hNz : (cw : Int) * ch = N := by rw [hNe, Int.natCast_mul]
  have HNe := hid hNe
  have HZ := hid hNz
  rw [← hNe]
  have hN2 : N ≤ 1048576 := by omega
  clear hNe hNz
  clear hp hn hck
  go_enter Try.func18, Try.ntmps18
  go_wp2_with fail
  (with_reducible refine (HCK.out _).mono ?_); rintro e w1 ⟨rfl, hb1⟩
  obtain ⟨hc1, hf1⟩ := bcell hb1
  have hs1 : w.heap.size + 2 ≤ w1.heap.size := by have := hb1.size; simp at this; exact this
  have HB1 := hid hb1
  clear hb1
  go_wp2_with (first
    | (go_at_call 42; (with_reducible refine (part_any _ _ _ _ (by omega) (by omega)).mono ?_); rintro e w' ⟨rfl, rfl⟩)
    | (at_make
       refine wpList_make_own _ rfl _ _ 22 rfl (w.heap.size + 2) 5 i0 (.int .u8 0) 1 Try.underlying22 hi hz0 hz1 .i64 .i64 _ N rfl rfl HZ.out (by rw [hz2]; omega) (by unfold maxLen; omega) (by omega) ?_
       intro w2 hown2 hgrow2))
  have HO2 : Hid (Own w2 (w.heap.size + 2) w1.heap.size 0 N (flat cw fun i j => F (x + i) (y + j))) := hid hown2
  have HB2 := hid (HB1.out.grown hgrow2 (by simp; omega) (fun _ h => by cases h))
  clear hown2 hgrow2 hc1 hf1 b1 b2 HB1
  go_loopw [13, 14, 41] (fun s13 _ s41 wr => ∃ k m g1 c1 : Nat, k ≤ ch ∧ m ≤ N ∧ Hid (m = k * cw) ∧ s41 = .int .i64 k ∧ s13 = .slice (some ⟨g1, 0, none⟩) m c1 ∧ Hid (Own wr (w.heap.size + 2) g1 m c1 (flat cw fun i j => F (x + i) (y + j))) ∧
    Hid (Below ((w.alloc (.cells #[.int .i64 W, .int .i64 H, .slice (some ⟨g, 0, none⟩) n c] 25)).alloc (.cells #[.int .i64 0, .int .i64 0, .slice none 0 0] 25)).heap.size
      ((w.alloc (.cells #[.int .i64 W, .int .i64 H, .slice (some ⟨g, 0, none⟩) n c] 25)).alloc (.cells #[.int .i64 0, .int .i64 0, .slice none 0 0] 25)) wr)) (fun _ _ s41 _ => ch - (intOf s41).toNat)
  case atStart => exact ⟨0, 0, _, _, Nat.zero_le _, Nat.zero_le _, hid (by simp), rfl, rfl, HO2, HB2⟩
  case round =>
    clear HO2 HB2
    obtain ⟨k, m, g1, c1, hk, hm, Hm, rfl, rfl, HO, HB⟩ := hrel
    obtain ⟨hc, hf⟩ := bcell HB.out
    by_cases hlt : k < ch
    · have hle : m + cw ≤ N := by
        rw [Hm.out, HNe.out, ← Nat.succ_mul, Nat.mul_comm cw ch]; exact Nat.mul_le_mul_right cw hlt
      have hrow : (y + k) * W + W ≤ n := by
        rw [HN.out, ← Nat.succ_mul, Nat.mul_comm W H]; exact Nat.mul_le_mul_right W (by omega)
      have hrc : ∀ w', Calls Try.prog 40 #[grid W H (.slice (some ⟨g, 0, none⟩) n c), .int .i64 ((y : Int) + k)] w' fun e w'' => e = .returned (.slice (some ⟨g, (y + k) * W, none⟩) W (c - (y + k) * W)) ∧ Below w'.heap.size w' w'' := by
        intro w'
        have := row_nat W H (y + k) g n c w' hW (by omega) hrow hnc hcm
        rw [Int.natCast_add] at this
        exact this
      obtain ⟨off, hoff⟩ : ∃ off, off = (y + k) * W := ⟨_, rfl⟩
      obtain ⟨cr, hcr⟩ : ∃ cr, cr = c - off := ⟨_, rfl⟩
      rw [← hoff] at hrc hrow
      rw [← hcr] at hrc
      have hcr1 : W ≤ cr := by omega
      have hcr2 : cr ≤ 9223372036854775807 := by omega
      have HRC := Lib.hid hrc
      have HOFF := hid hoff
      have hxl : x < cr := by omega
      have hxcw : x + cw ≤ cr := by omega
      have hgr : g < wr.heap.size := by have := HB.out.size; simp at this; omega
      have hpx := (HP.out.below (Below.trans (by repeat first | exact Below.refl _ _ | apply Below.drew | apply below_alloc : Below w.heap.size w _) (HB.out.mono (by simp; omega))) hg).part (off + x) cw (by omega)
      have HPX := hid hpx
      clear hrc hoff hcr hpx
      go_wp2_with fail
      (with_reducible refine (HRC.out _).mono ?_); rintro e w3 ⟨rfl, hb3⟩
      have HO3 := hid (HO.out.below hb3 HO.out.lt.2)
      have HB3 := hid (HB.out.trans (hb3.mono HB.out.size))
      have hpx3 := HPX.out.below hb3 hgr
      rw [Nat.zero_add] at hpx3
      have HPX3 := hid (pixs_px hpx3)
      clear hpx3
      have hs3 : w.heap.size + 2 ≤ w3.heap.size := by have := HB3.out.size; simp at this; omega
      clear hb3 hc hf
      have a1 : (pixs (fun i => flat W F (off + x + i)) cw).length = cw * 1 := by rw [pixs_length, Nat.mul_one]
      have a2 : m + cw ≤ maxLen := by unfold maxLen; omega
      have a3 : (m + cw) * 1 ≤ 140737488355328 := by omega
      have a4 : 0 < cw := hcw
      have es : Value.slice (some ⟨g, off + x, none⟩) (x + cw - x) (cr - x) = Value.slice (some ⟨g, off + x, none⟩) cw (cr - x) := by rw [Nat.add_sub_cancel_left]
      have ES := hid es
      clear es
      have A1 := hid a1
      have A2 := hid a2
      have A3 := hid a3
      clear a1 a2 a3
      go_wp2_with
        (at_builtin
         refine wpList_append_lies _ rfl _ _ 22 rfl (w.heap.size + 2) 5 i0 (.int .u8 0) 1 1 Try.underlying22 hi hz0 hz1 hz2 rfl (by decide) (.slice (some ⟨g1, 0, none⟩) m c1) m (pixs (flat cw fun i j => F (x + i) (y + j)) m) rfl
           HO3.out ⟨g, off + x, none⟩ cw (cr - x) (pixs (fun i => flat W F (off + x + i)) cw) ES.out A1.out HPX3.out (pixs_one _ _) a4 A2.out A3.out hs3 w3.heap.size rfl ?_
         intro g4 c4 w4 hown4 hgrow4 hat4 hlt4)
      have e1 : pixs (flat cw fun i j => F (x + i) (y + j)) m ++ pixs (fun i => flat W F (off + x + i)) cw = pixs (flat cw fun i j => F (x + i) (y + j)) (m + cw) := by
        rw [pixs_append]
        refine pixs_congr fun i hi => ?_
        by_cases h : i < m
        · rw [if_pos h]
        · rw [if_neg h]
          have e2 : i = k * cw + (i - m) := by have := Hm.out; omega
          have h3 : i - m < cw := by omega
          rw [e2]
          show flat W F (off + x + (k * cw + (i - m) - m)) = _
          rw [show off + x + (k * cw + (i - m) - m) = (y + k) * W + (x + (i - m)) from by have := Hm.out; have := HOFF.out; omega, flat_at F (y + k) (show x + (i - m) < W by omega), flat_at _ k h3]
      rw [e1] at hown4
      have HO4 : Hid (Own w4 (w.heap.size + 2) g4 (m + cw) c4 (flat cw fun i j => F (x + i) (y + j))) := hid hown4
      have HB4 := hid (HB3.out.grown hgrow4 HB3.out.size (fun b hb => by injection hb with hb; rw [← hb]; have := HO.out.lt.1; simp; omega))
      clear hown4 e1 hgrow4 hat4 HPX HPX3
      go_wp2
      go_roundw
      case rel => exact ⟨k + 1, m + cw, g4, c4, by omega, hle, hid (by rw [Hm.out, Nat.succ_mul]), by go_num, rfl, HO4, HB4⟩
      case measure => simp [intOf]; omega
    · obtain rfl : k = ch := by omega
      obtain rfl : m = N := by rw [Hm.out, HNe.out, Nat.mul_comm]
      go_wp2
      refine bodyPost_ret (v := .tuple #[grid cw k (.slice (some ⟨g1, 0, none⟩) m c1), .int .i64 0]) (by simp [results, Try.results18, go_sem, *]) rfl ⟨g1, c1, rfl, ?_, ?_⟩
      · exact (HO.out.far3 (by have := HO.out.lt.1; omega)).mono (by omega)
      · exact below3' (by repeat first | exact Below.refl _ _ | apply Below.drew | apply below_alloc) HB.out (by simp; omega) (by omega)

end Go.Proofs.Ytdjjijkdalpggaa
