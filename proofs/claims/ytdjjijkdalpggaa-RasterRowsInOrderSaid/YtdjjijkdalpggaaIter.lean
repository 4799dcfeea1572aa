/- The rows of a raster, one at a time. -/
import Derived.Test.YtdjjijkdalpggaaSeq
import Derived.Test.YtdjjijkdalpggaaAlg
namespace Go.Proofs.Ytdjjijkdalpggaa
open Go Go.RowKit Go.Shelf
attribute [local go_sem] Oper.semAt_some
set_option linter.unusedVariables false

theorem rows_make (W H : Int) (p : Value) (w : World) :
    Calls Try.prog 31 #[grid W H p] w fun e w' => e = .returned (.func (.func 50) #[] #[.pointer (some ⟨w.heap.size, 0, none⟩)]) ∧ w' = w.alloc (.cells #[.int .i64 W, .int .i64 H, p] 25) := by
  go_enter Try.func31, Try.ntmps31
  go_wp2_with fail
  go_ret
  exact ⟨rfl, rfl⟩

/-- The raster in block b. -/
def Src (W H b g n c : Nat) (f : Nat → Int) (A : World) : Prop := Boxed3 A b (.int .i64 W) (.int .i64 H) (.slice (some ⟨g, 0, none⟩) n c) ∧ Px A g 0 n f ∧ g < A.heap.size
/-- v is its row k. -/
def RowAt (W : Nat) (f : Nat → Int) (k : Nat) (v : Value) (A : World) : Prop := ∃ g c, v = .slice (some ⟨g, 0, none⟩) W c ∧ Px A g 0 W fun i => f (k * W + i)

theorem RowAt.put {W k : Nat} {f : Nat → Int} {v : Value} {A : World} (h : RowAt W f k v A) {l : Nat} {r : Loop} (o : Obj) (hl : A.heap[l]? = some (.loop r)) : RowAt W f k v (A.putObj l o) := by
  obtain ⟨g, c, rfl, hp⟩ := h
  exact ⟨g, c, rfl, fun i hi => cell_kept (hp i hi) (grownBy_putObj' A l o) (fun r e => by cases e; exact ⟨_, hl, rfl⟩)⟩

set_option maxRecDepth 100000 in
set_option maxHeartbeats 2000000 in
theorem rows_iter (m : Nat) (hm : 1 ≤ m) (W H b g n c : Nat) (f : Nat → Int) (I : Nat → World → Prop) (hW : 1 ≤ W ∧ W ≤ 1024) (hH : 1 ≤ H ∧ H ≤ 1024) (hn : n = W * H) (hc : n ≤ c) (hcm : c ≤ 9223372036854775807)
    (hI : ∀ k A, I k A → Src W H b g n c f A) : SeqRows Fence.wide m Try.prog 50 #[.pointer (some ⟨b, 0, none⟩)] (RowAt W f) H I := by
  intro l J Jx V hJ hJI hY h0
  have HN := hid hn
  have HC := hid hcm
  have hN : n ≤ 1048576 := by rw [hn]; exact Nat.le_trans (Nat.mul_le_mul hW.2 hH.2) (by omega)
  have HCK := Lib.hid (fun w => check_ok W H (some ⟨g, 0, none⟩) n c w (by omega) (by omega) (by rw [hn, Int.natCast_mul]))
  clear hn hcm
  have HI := hid hI
  have HJ := hid hJ
  have HJI := hid hJI
  have HY := hid hY
  have H0 := hid h0
  clear hI hJ hJI hY h0
  obtain ⟨⟨s0, s1, s2⟩, -, -⟩ := HI.out _ _ (HJI.out _ _ H0.out)
  refine callsIn_of_wp Try.func50 rfl trivial ?_ rfl
  simp only [Try.ntmps50, List.size_toArray, List.length_cons, List.length_nil, Nat.reduceAdd, Nat.reduceSub, Array.replicate_succ, Array.replicate_zero, List.push_toArray, List.append_toArray, List.nil_append, List.cons_append]
  gi_wp2_with (refine ⟨trivial, ?_⟩; gi_at_call 25; refine (callsIn_wide.2 (HCK.out _)).mono ?_; rintro e w1 ⟨rfl, hb1⟩; have HB1 := hid hb1; obtain ⟨hc1, hf1⟩ := bcell hb1; clear hb1; have q1 := (hc1 b 1 (cell_old s1)).trans s1)
  have H1 := hid (HJ.out _ _ _ H0.out HB1.out)
  clear s0 s1 s2 q1 hc1 hf1 HB1 H0
  gi_loopw [3, 9] (fun _ s9 wr => ∃ k : Nat, k ≤ H ∧ s9 = .int .i64 k ∧ Hid (J k wr)) (fun _ s9 _ => H - (intOf s9).toNat)
  case atStart => exact ⟨0, Nat.zero_le _, rfl, H1⟩
  case round =>
    clear H1
    obtain ⟨k, hk, rfl, HK⟩ := hrel
    obtain ⟨⟨s0, s1, s2⟩, px, gl⟩ := HI.out _ _ (HJI.out _ _ HK.out)
    have HPX := hid px
    clear px
    by_cases hlt : k < H
    · have hle : k * W + W ≤ n := by
        rw [HN.out, ← Nat.succ_mul, Nat.mul_comm W H]; exact Nat.mul_le_mul_right W hlt
      gi_wp2_with (refine ⟨trivial, ?_⟩; gi_at_call 40; refine (callsIn_wide.2 (row_nat W H k g n c _ hW (by omega) hle hc HC.out)).mono ?_; rintro e w2 ⟨rfl, hb2⟩; have HB2 := hid hb2; clear hb2)
      refine ⟨trivial, ?_⟩
      have hp2 : Px w2 g (k * W) W (fun i => f (k * W + i)) := by have := HPX.out.part (k * W) W hle; rw [Nat.zero_add] at this; exact this.below HB2.out gl
      refine (callsIn_wide.2 (sclone_any g (k * W) W _ (fun i => f (k * W + i)) _ hp2 hW.1 (by omega) (Nat.lt_of_lt_of_le gl HB2.out.size))).mono ?_
      rintro e w3 ⟨g3, c3, rfl, ho3, hb3⟩
      have HB3 := hid (HB2.out.trans (hb3.mono HB2.out.size))
      have HO3 := hid ho3
      clear ho3 hb3 hp2
      obtain ⟨fn, tmps, assign, body, hy, hR⟩ := HY.out k _ w3 (HJ.out _ _ _ HK.out HB3.out) hlt ⟨g3, c3, rfl, HO3.out.px⟩
      gi_wp2
      refine hR.mono ?_
      rintro e w4 (⟨rfl, hJ4⟩ | ⟨rfl, hX4⟩)
      · gi_wp2
        go_roundw
        case rel => exact ⟨k + 1, by omega, by go_num, hid hJ4⟩
        case measure => simp [intOf]; omega
      · gi_wp2
        refine bodyPost_ret (results_none rfl _ _ _) rfl ?_
        exact ⟨⟨_, rfl⟩, .inr ⟨k, hlt, hX4⟩⟩
    · obtain rfl : k = H := by omega
      gi_wp2
      go_end0
      exact ⟨⟨_, rfl⟩, .inl HK.out⟩
end Go.Proofs.Ytdjjijkdalpggaa
