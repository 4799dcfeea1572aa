/- What build returns: the raster of what the function returns for each pixel. -/
import Derived.Test.YtdjjijkdalpggaaClone
import Derived.Shelf.Abstract
namespace Go.Proofs.Ytdjjijkdalpggaa
open Go Go.RowKit
set_option linter.unusedVariables false

theorem idx_mod {W x : Nat} (j : Nat) (h : x < W) : (j * W + x) % W = x ∧ (j * W + x) / W = j := by
  rw [Nat.mul_comm]
  exact ⟨by rw [Nat.mul_add_mod]; exact Nat.mod_eq_of_lt h, by rw [Nat.mul_add_div (by omega), Nat.div_eq_of_lt h]; rfl⟩

/-- What a function of two numbers that the call is handed returns: pixels; it makes new memory alone. -/
def Gives (g : Nat) (cb : Array Value) (W H : Nat) (F : Nat → Nat → Int) (w : World) : Prop :=
  ∀ (W' : World) (x y : Nat), Below w.heap.size w W' → x < W → y < H → Calls Try.prog g (#[.int .i64 x, .int .i64 y] ++ cb) W' fun e W'' => e = .returned (.int .u8 (F x y)) ∧ Below W'.heap.size W' W''

/-- The pixels in their order. -/
def flat (W : Nat) (F : Nat → Nat → Int) (i : Nat) : Int := F (i % W) (i / W)

set_option maxHeartbeats 1000000 in
theorem build_any (g : Nat) (cb : Array Value) (W H : Nat) (F : Nat → Nat → Int) (w : World) (eg0 : Enters Try.prog g)
    (hG : Gives g cb W H F w) (hW : 1 ≤ W ∧ W ≤ 1024) (hH : 1 ≤ H ∧ H ≤ 1024) :
    Calls Try.prog 33 #[.int .i64 W, .int .i64 H, .func (.func g) #[] cb] w (NewGrid W H (W * H) (flat W F) w) := by
  obtain ⟨i0, hi, hz0, hz1, hz2⟩ := info_parts info5
  have HG := hid hG
  have eg : ∀ args w, (callFunc g args).run Try.prog w = .ok (.enter g args) w := eg0
  clear eg0
  clear hG
  obtain ⟨m1, m2⟩ := mul_bds (show (0 : Int) ≤ W by omega) (show (W : Int) ≤ 1024 by omega) (show (0 : Int) ≤ H by omega) (show (H : Int) ≤ 1024 by omega)
  obtain ⟨N, hN⟩ : ∃ N : Nat, N = W * H := ⟨_, rfl⟩
  have hNz : (N : Int) = W * H := by rw [hN, Int.natCast_mul]
  have HN := hid hN
  have HZ := hid hNz
  rw [← hN]
  have hN2 : N ≤ 1048576 := by omega
  clear hN hNz
  go_enter Try.func33, Try.ntmps33
  go_wp2_with
    (at_make
     refine wpList_make_own _ rfl _ _ 22 rfl (w.heap.size + 1) 5 i0 (.int .u8 0) 1 Try.underlying22 hi hz0 hz1 .i64 .i64 _ N rfl rfl HZ.out.symm (by rw [hz2]; omega) (by unfold maxLen; omega) (by simp) ?_
     intro w0 hown0 hgrow0)
  have hb0 : Below (w.heap.size + 1) (w.alloc (.cells #[.int .i64 0, .int .i64 0, .slice none 0 0] 25)) w0 := (Below.refl _ _).grown hgrow0 (by simp) (fun _ h => by cases h)
  have O0 : Own w0 (w.heap.size + 1) (w.heap.size + 1) 0 N (flat W F) := by unfold Own; rw [World.size_alloc] at hown0; exact hown0
  have HB0 := hid hb0
  have HO0 := hid O0
  clear hb0 O0 hown0 hgrow0
  go_loopw [7, 8, 15] (fun s7 _ s15 wr => ∃ j n g1 c1 : Nat, j ≤ H ∧ n ≤ N ∧ Hid (n = j * W) ∧ s15 = .int .i64 j ∧ s7 = .slice (some ⟨g1, 0, none⟩) n c1 ∧ Hid (Own wr (w.heap.size + 1) g1 n c1 (flat W F)) ∧ Hid (Below (w.heap.size + 1) (w.alloc (.cells #[.int .i64 0, .int .i64 0, .slice none 0 0] 25)) wr)) (fun _ _ s15 _ => H - (intOf s15).toNat)
  case atStart => exact ⟨0, 0, _, _, Nat.zero_le _, Nat.zero_le _, hid (by simp), rfl, rfl, HO0, HB0⟩
  case round =>
    clear HO0 HB0
    obtain ⟨j, n, g1, c1, hj, hn, Hn, rfl, rfl, HO, HB⟩ := hrel
    by_cases hlt : j < H
    · have hle : n + W ≤ N := by
        rw [Hn.out, HN.out, ← Nat.succ_mul, Nat.mul_comm W H]; exact Nat.mul_le_mul_right W hlt
      obtain ⟨wo, rfl⟩ : ∃ wo : World, wo = wr := ⟨_, rfl⟩
      go_wp2
      go_loopw [7, 9, 19] (fun s7 _ s19 wr => ∃ x g1 c1 : Nat, x ≤ W ∧ s19 = .int .i64 x ∧ s7 = .slice (some ⟨g1, 0, none⟩) (n + x) c1 ∧ Hid (Own wr (w.heap.size + 1) g1 (n + x) c1 (flat W F)) ∧ Hid (Below (w.heap.size + 1) (w.alloc (.cells #[.int .i64 0, .int .i64 0, .slice none 0 0] 25)) wr)) (fun _ _ s19 _ => W - (intOf s19).toNat)
      case atStart => exact ⟨0, g1, c1, Nat.zero_le _, rfl, rfl, HO, HB⟩
      case round =>
        clear HO HB
        obtain ⟨x, g2, c2, hx, rfl, rfl, HO, HB⟩ := hrel
        by_cases hlx : x < W
        · have hsz : w.heap.size + 1 ≤ wr.heap.size := by have := HB.out.size; rw [World.size_alloc] at this; exact this
          have hcall := HG.out wr x j (((Below.refl _ _).alloc (Nat.le_refl _) _).trans (HB.out.mono (Nat.le_succ _))) hlx hlt
          go_wp2_with (first
            | (at_builtin
               refine wpList_append_lies _ rfl _ _ 22 rfl (w.heap.size + 1) 5 i0 (.int .u8 0) 1 1 Try.underlying22 hi hz0 hz1 hz2 rfl (by decide) (.slice (some ⟨g2, 0, none⟩) (n + x) c2) (n + x) (pixs (flat W F) (n + x)) rfl
                 (HO1.out.alloc _) ⟨w1.heap.size, 0, none⟩ 1 1 [.int .u8 (F x j)] rfl rfl (cell_one_new _ _ _) (by simp [Value.oneCell']) (by omega) (by unfold maxLen; omega) (by omega) (by simp; omega) (w1.heap.size + 1) (by simp) ?_
               intro g3 c3 w3 hown3 hgrow3 hat3 hlt3)
            | (go_at_fn g; refine hcall.mono ?_; rintro e w1 ⟨rfl, hb1⟩; have HO1 := hid (HO.out.below hb1 HO.out.lt.2); have HB1 := hid (HB.out.trans (hb1.mono hsz)); have hsz1 : w.heap.size + 1 ≤ w1.heap.size := Nat.le_trans hsz hb1.size; clear hb1))
          have hf : flat W F (n + x) = F x j := by unfold flat; rw [Hn.out, (idx_mod j hlx).1, (idx_mod j hlx).2]
          rw [← hf, ← pixs_snoc] at hown3
          have hO3 : Own w3 (w.heap.size + 1) g3 (n + (x + 1)) c3 (flat W F) := hown3
          have HO3 := hid hO3
          have HB3 := hid (below_own (HB1.out.alloc hsz1 _) hgrow3 (by simp; omega) HO1.out.lt.1)
          clear hown3 hO3 hf hgrow3 hat3
          go_wp2
          go_roundw
          case rel => exact ⟨x + 1, g3, c3, by omega, by go_num, rfl, HO3, HB3⟩
          case measure => simp [intOf]; omega
        · obtain rfl : x = W := by omega
          go_wp2
          go_roundw
          case rel => exact ⟨j + 1, n + x, g2, c2, by omega, hle, hid (by rw [Hn.out, Nat.succ_mul]), by go_num, rfl, HO, HB⟩
          case measure => simp [intOf]; omega
    · obtain ⟨c0, c1', c2, fz⟩ := box3 HB.out
      obtain rfl : j = H := by omega
      obtain rfl : n = N := by rw [Hn.out, HN.out, Nat.mul_comm]
      go_wp2
      refine bodyPost_ret (v := grid W j (.slice (some ⟨g1, 0, none⟩) n c1)) (by simp [results, Try.results33, go_sem, *]) rfl ⟨g1, c1, rfl, ?_, ?_⟩
      · exact (HO.out.far3 (by have := HO.out.lt.1; omega)).mono (by omega)
      · exact below3' ((Below.refl _ _).alloc (Nat.le_refl _) _) HB.out (by simp) (Nat.le_refl _)

end Go.Proofs.Ytdjjijkdalpggaa
