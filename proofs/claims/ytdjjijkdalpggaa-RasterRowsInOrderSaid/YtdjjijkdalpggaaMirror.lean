/- What slices.Reverse and Mirror do. -/
import Derived.Test.YtdjjijkdalpggaaTurn
import Derived.Test.YtdjjijkdalpggaaSmall
namespace Go.Proofs.Ytdjjijkdalpggaa
open Go Go.RowKit
set_option linter.unusedVariables false

theorem pixs_set (f : Nat → Int) (n j : Nat) (v : Int) : (pixs f n).set j (.int .u8 v) = pixs (fun i => if i = j then v else f i) n := by
  refine List.ext_getElem? fun i => ?_
  rw [List.getElem?_set]
  by_cases h : j = i
  · subst h
    rw [if_pos rfl, pixs_length]
    by_cases h2 : j < n
    · rw [if_pos h2, pixs_at _ _ _ h2, if_pos rfl]
    · rw [if_neg h2, List.getElem?_eq_none (by rw [pixs_length]; omega)]
  · rw [if_neg h]
    by_cases h2 : i < n
    · rw [pixs_at _ _ _ h2, pixs_at _ _ _ h2, if_neg (fun e => h e.symm)]
    · rw [List.getElem?_eq_none (by rw [pixs_length]; omega), List.getElem?_eq_none (by rw [pixs_length]; omega)]

theorem Own.set {w : World} {B g n c : Nat} {f : Nat → Int} (h : Own w B g n c f) (j : Nat) (v : Int) : Own (w.setCell ⟨g, j, none⟩ (.int .u8 v)) B g n c (fun i => if i = j then v else f i) := by
  unfold Own
  rw [← pixs_set]
  exact (World.ownsRow.stored h j (.int .u8 v)).1

/-- Nothing but block g has turned. -/
def Only (g : Nat) (w w' : World) : Prop := w'.os = w.os ∧ w'.tape = w.tape ∧ w'.output = w.output ∧ w'.heap.size = w.heap.size ∧ ∀ k, k ≠ g → w'.heap[k]? = w.heap[k]?
theorem Only.refl (g : Nat) (w : World) : Only g w w := ⟨rfl, rfl, rfl, rfl, fun _ _ => rfl⟩
theorem Only.drew {g : Nat} {w w' : World} (h : Only g w w') : Only g w w'.drew := h
theorem Only.set {g : Nat} {w w' : World} (h : Only g w w') (j : Nat) (u : Value) : Only g w (w'.setCell ⟨g, j, none⟩ u) :=
  ⟨h.1, h.2.1, h.2.2.1, by simpa [World.setCell] using h.2.2.2.1, fun k hk => (Below.heap_setCell _ _ _ _ hk).trans (h.2.2.2.2 k hk)⟩
theorem Only.below {g B : Nat} {w0 w w' : World} (h : Below B w0 w) (ho : Only g w w') (hg : B ≤ g) : Below B w0 w' :=
  ⟨ho.1.trans h.os, ho.2.1.trans h.tape, ho.2.2.1.trans h.output, by have := h.size; have := ho.2.2.2.1; omega, fun k hk => (ho.2.2.2.2 k (by omega)).trans (h.block k hk)⟩

/-- The row from off on, of n pixels, reversed but for the middle. -/
def rev (off n k : Nat) (f : Nat → Int) (i : Nat) : Int := if off ≤ i ∧ i < off + n ∧ (i < off + k ∨ off + n ≤ i + k) then f (off + off + n - 1 - i) else f i

theorem rev_step {off n k j : Nat} {f : Nat → Int} (h : k + j + 1 = n) (hlt : k < j) (i : Nat) :
    (if i = off + j then rev off n k f (off + k) else if i = off + k then rev off n k f (off + j) else rev off n k f i) = rev off n (k + 1) f i := by
  have e1 : rev off n k f (off + k) = f (off + k) := by unfold rev; rw [if_neg (by omega)]
  have e2 : rev off n k f (off + j) = f (off + j) := by unfold rev; rw [if_neg (by omega)]
  rw [e1, e2]
  by_cases h1 : i = off + j
  · rw [if_pos h1]; unfold rev; rw [if_pos (by omega)]; congr 1; omega
  · rw [if_neg h1]
    by_cases h2 : i = off + k
    · rw [if_pos h2]; unfold rev; rw [if_pos (by omega)]; congr 1; omega
    · rw [if_neg h2]
      unfold rev
      by_cases h3 : off ≤ i ∧ i < off + n ∧ (i < off + k ∨ off + n ≤ i + k)
      · rw [if_pos h3, if_pos (by omega)]
      · rw [if_neg h3, if_neg (by omega)]

theorem rev_end {off n k j : Nat} {f : Nat → Int} (h : k + j + 1 = n) (hlt : ¬ k < j) (hle : k ≤ j + 1) (i : Nat) : rev off n k f i = rev off n n f i := by
  unfold rev
  by_cases h3 : off ≤ i ∧ i < off + n ∧ (i < off + k ∨ off + n ≤ i + k)
  · rw [if_pos h3, if_pos (by omega)]
  · rw [if_neg h3]
    by_cases h4 : off ≤ i ∧ i < off + n ∧ (i < off + n ∨ off + n ≤ i + n)
    · rw [if_pos h4]; congr 1; omega
    · rw [if_neg h4]

set_option maxHeartbeats 1000000 in
theorem reverse_any (B g off n cs N c : Nat) (f : Nat → Int) (w : World) (ho : Own w B g N c f) (hn : 1 ≤ n) (hN : off + n ≤ N) (hm : N ≤ 4194304) :
    Calls Try.prog 39 #[.slice (some ⟨g, off, none⟩) n cs] w fun e w' => e = .returned (.tuple #[]) ∧ Own w' B g N c (rev off n n f) ∧ Only g w w' := by
  have HO := hid ho
  have o1 : Own w B g N c (rev off n 0 f) := ho.congr (fun i _ => by unfold rev; rw [if_neg (by omega)])
  have HO1 := hid o1
  clear ho o1
  go_enter Try.func39, Try.ntmps39
  go_wp2_with fail
  go_loopw [2, 3] (fun s2 s3 wr => ∃ k j : Nat, k + j + 1 = n ∧ k ≤ j + 1 ∧ s2 = .int .i64 k ∧ s3 = .int .i64 j ∧ Hid (Own wr B g N c (rev off n k f)) ∧ Hid (Only g w wr)) (fun s2 _ _ => n - (intOf s2).toNat)
  case atStart => exact ⟨0, n - 1, by omega, by omega, rfl, by rw [show ((n - 1 : Nat) : Int) = n - 1 from by omega], HO1, hid (Only.refl _ _)⟩
  case round =>
    clear HO1 HO
    obtain ⟨k, j, hkj, hle, rfl, rfl, HO, HY⟩ := hrel
    by_cases hlt : k < j
    · have c1 := HO.out.px (off + k) (by omega)
      have c2 := HO.out.px (off + j) (by omega)
      rw [Nat.zero_add] at c1 c2
      have f1 := World.ownsRow.frozenAt HO.out (off + k)
      have f2 := World.ownsRow.frozenAt HO.out (off + j)
      obtain ⟨x, ex⟩ : ∃ x, x = rev off n k f (off + k) := ⟨_, rfl⟩
      obtain ⟨y, ey⟩ : ∃ y, y = rev off n k f (off + j) := ⟨_, rfl⟩
      rw [← ex] at c1
      rw [← ey] at c2
      have EX := hid ex
      have EY := hid ey
      have HK := hid hkj
      have hjn : j < n := by omega
      have hkn : k < n := by omega
      have i1 : (0 : Int) ≤ (k : Int) := by omega
      have i2 : (k : Int) < (n : Int) := by omega
      have i3 : (0 : Int) ≤ (j : Int) := by omega
      have i4 : (j : Int) < (n : Int) := by omega
      have hne : off + k ≠ off + j := by omega
      have hne' : off + j ≠ off + k := by omega
      clear ex ey hkj
      go_wp2_with fail
      go_region
      go_wp2
      go_roundw
      case rel =>
        refine ⟨k + 1, j - 1, by have := HK.out; omega, by omega, by go_num, by rw [show ((j - 1 : Nat) : Int) = j - 1 from by omega], hid (((HO.out.set (off + k) y).set (off + j) x).drew.congr fun i _ => ?_), hid (((HY.out.set _ _).set _ _).drew)⟩
        rw [EX.out, EY.out]
        exact rev_step HK.out hlt i
      case measure => simp [intOf]; omega
    · have HK := hid hkj
      clear hkj
      go_wp2
      go_end0
      exact ⟨rfl, HO.out.congr fun i _ => rev_end HK.out hlt hle i, HY.out⟩

theorem row_nat (W H j : Nat) (g n c : Nat) (w : World) (hW : 1 ≤ W ∧ W ≤ 1024) (hj : j ≤ 1024) (hn : j * W + W ≤ n) (hc : n ≤ c) (hm : c ≤ 9223372036854775807) :
    Calls Try.prog 40 #[grid W H (.slice (some ⟨g, 0, none⟩) n c), .int .i64 j] w fun e w' => e = .returned (.slice (some ⟨g, j * W, none⟩) W (c - j * W)) ∧ Below w.heap.size w w' := by
  have e1 : ((j : Int) * (W : Int)).toNat = j * W := by rw [← Int.natCast_mul]; exact Int.toNat_natCast _
  have h := row_any W H j g n c w (by omega) (by omega) (by rw [← Int.natCast_mul]; omega) hc hm
  rw [e1, Int.toNat_natCast] at h
  exact h

theorem in_row {W x : Nat} (y j : Nat) (hx : x < W) : (j * W ≤ y * W + x ∧ y * W + x < j * W + W) ↔ y = j := by
  constructor
  · rintro ⟨h1, h2⟩
    rcases Nat.lt_trichotomy y j with h | h | h
    · have := Nat.mul_le_mul_right W (show y + 1 ≤ j by omega); rw [Nat.succ_mul] at this; omega
    · exact h
    · have := Nat.mul_le_mul_right W (show j + 1 ≤ y by omega); rw [Nat.succ_mul] at this; omega
  · rintro rfl; omega

/-- The first j rows mirrored. -/
def mir (W j : Nat) (F : Nat → Nat → Int) (i : Nat) : Int := if i / W < j then F (W - 1 - i % W) (i / W) else F (i % W) (i / W)
theorem mir_step (W j : Nat) (F : Nat → Nat → Int) (i : Nat) (hW : 1 ≤ W) : rev (j * W) W W (mir W j F) i = mir W (j + 1) F i := by
  have hx : i % W < W := Nat.mod_lt _ (by omega)
  have hi : i = i / W * W + i % W := by have := Nat.div_add_mod i W; rw [Nat.mul_comm] at this; omega
  have hr := in_row (i / W) j hx
  rw [← hi] at hr
  unfold rev
  by_cases h : i / W = j
  · have h2 := hr.2 h
    rw [if_pos (by omega)]
    have e : j * W + j * W + W - 1 - i = j * W + (W - 1 - i % W) := by rw [h] at hi; omega
    rw [e]
    unfold mir
    rw [(idx_mod j (show W - 1 - i % W < W by omega)).1, (idx_mod j (show W - 1 - i % W < W by omega)).2, if_neg (by omega), if_pos (by omega), h]
  · have h2 : ¬ (j * W ≤ i ∧ i < j * W + W) := fun k => h (hr.1 k)
    rw [if_neg (by omega)]
    unfold mir
    by_cases h3 : i / W < j
    · rw [if_pos h3, if_pos (by omega)]
    · rw [if_neg h3, if_neg (by omega)]

set_option maxHeartbeats 2000000 in
theorem mirror_any (W H : Nat) (g n c : Nat) (F : Nat → Nat → Int) (w : World) (hp : Px w g 0 n (flat W F)) (hW : 1 ≤ W ∧ W ≤ 1024) (hH : 1 ≤ H ∧ H ≤ 1024) (hn : n = W * H) (hg : g < w.heap.size) :
    Calls Try.prog 16 #[grid W H (.slice (some ⟨g, 0, none⟩) n c)] w (OkGrid W H n (flat W fun x y => F (W - 1 - x) y) w) := by
  have HP := hid hp
  have HN := hid hn
  have hN : n ≤ 1048576 := by rw [hn]; exact Nat.le_trans (Nat.mul_le_mul hW.2 hH.2) (by omega)
  have hck : ∀ w, Calls Try.prog 25 #[grid W H (.slice (some ⟨g, 0, none⟩) n c)] w fun e w' => e = .returned (.int .i64 0) ∧ Below w.heap.size w w' := fun w => check_ok W H _ n c w (by omega) (by omega) (by rw [hn, Int.natCast_mul])
  have HCK := Lib.hid hck
  clear hp hn hck
  go_enter Try.func16, Try.ntmps16
  go_wp2_with fail
  (with_reducible refine (HCK.out _).mono ?_); rintro e w1 ⟨rfl, hb1⟩
  obtain ⟨hc1, hf1⟩ := bcell hb1
  go_wp2_with fail
  (with_reducible refine (clone_any W H g n c (flat W F) _ ?_ ?_ ?_ ?_).mono ?_)
  · exact HP.out.below (below_next (by repeat first | exact Below.refl _ _ | apply Below.drew | apply below_alloc) hb1) hg
  · rw [HN.out]; exact Nat.mul_pos (by omega) (by omega)
  · omega
  · have := hb1.size; simp at this; omega
  rintro e w2 ⟨g2, c2, rfl, ho, hb2⟩
  have hs1 : w.heap.size + 2 ≤ w1.heap.size := by have := hb1.size; simp at this; exact this
  have HB2 := hid (hb1.trans (hb2.mono hb1.size))
  have HO2 := hid (ho.mono hs1)
  have hlt2 := ho.lt.2
  clear ho hb1 hb2 hc1 hf1
  go_wp2_with fail
  obtain ⟨B5, hB5⟩ : ∃ B5, B5 = w2.heap.size := ⟨_, rfl⟩
  have hV5 := Var3.new w2 (.int .i64 W) (.int .i64 H) (.slice (some ⟨g2, 0, none⟩) n c2)
  rw [← hB5] at hV5 hlt2 ⊢
  have hle5 : w.heap.size + 2 ≤ B5 := by have := HB2.out.size; simp at this; omega
  have HV5 := hid hV5
  have HO3 := hid (HO2.out.alloc (.cells #[.int .i64 W, .int .i64 H, .slice (some ⟨g2, 0, none⟩) n c2] 25))
  have HB3 := hid (HB2.out.alloc HB2.out.size (.cells #[.int .i64 W, .int .i64 H, .slice (some ⟨g2, 0, none⟩) n c2] 25))
  clear hV5 HO2 HB2 hB5
  go_loopw [6, 17] (fun _ s17 wr => ∃ j : Nat, j ≤ H ∧ s17 = .int .i64 j ∧ Hid (Own wr (w.heap.size + 2) g2 n c2 (mir W j F)) ∧ Hid (Var3 wr B5 (.int .i64 W) (.int .i64 H) (.slice (some ⟨g2, 0, none⟩) n c2)) ∧
    Hid (Below ((w.alloc (.cells #[.int .i64 W, .int .i64 H, .slice (some ⟨g, 0, none⟩) n c] 25)).alloc (.cells #[.int .i64 0, .int .i64 0, .slice none 0 0] 25)).heap.size
      ((w.alloc (.cells #[.int .i64 W, .int .i64 H, .slice (some ⟨g, 0, none⟩) n c] 25)).alloc (.cells #[.int .i64 0, .int .i64 0, .slice none 0 0] 25)) wr)) (fun _ s17 _ => H - (intOf s17).toNat)
  case atStart => exact ⟨0, Nat.zero_le _, rfl, hid (HO3.out.congr fun i _ => by unfold mir; rw [if_neg (Nat.not_lt_zero _)]; rfl), HV5, HB3⟩
  case round =>
    clear HO3 HV5 HB3
    obtain ⟨j, hj, rfl, HO, HV, HB⟩ := hrel
    obtain ⟨v0, v1, v2, vf⟩ := HV.out.read
    have hg2 : w.heap.size + 2 ≤ g2 := HO.out.lt.1
    have hsz := HV.out.lt
    by_cases hlt : j < H
    · have hle : j * W + W ≤ n := by
        rw [HN.out, ← Nat.succ_mul, Nat.mul_comm W H]; exact Nat.mul_le_mul_right W hlt
      have hcap := HO.out.cap
      go_wp2_with fail
      (with_reducible refine (row_nat W H j g2 n c2 _ hW (by omega) hle hcap.1 hcap.2).mono ?_); rintro e w3 ⟨rfl, hb3⟩
      go_wp2_with fail
      (with_reducible refine (reverse_any (w.heap.size + 2) g2 (j * W) W _ n c2 (mir W j F) _ (HO.out.below hb3 HO.out.lt.2) hW.1 hle (by omega)).mono ?_); rintro e w4 ⟨rfl, ho4, hy4⟩
      have HO4 := hid (ho4.congr fun i _ => mir_step W j F i hW.1)
      have HV4 := hid ((HV.out.below hb3 hsz).keep (hy4.2.2.2.2 B5 (by omega)))
      have HB4 := hid (Only.below (HB.out.trans (hb3.mono HB.out.size)) hy4 (by simp; omega))
      clear v0 v1 v2 vf hb3 ho4 hy4
      go_wp2
      go_roundw
      case rel => exact ⟨j + 1, by omega, by go_num, HO4, HV4, HB4⟩
      case measure => simp [intOf]; omega
    · obtain ⟨hc, hf⟩ := bcell HB.out
      go_wp2
      refine bodyPost_ret (v := .tuple #[grid W H (.slice (some ⟨g2, 0, none⟩) n c2), .int .i64 0]) (by simp [results, Try.results16, go_sem, *]) rfl ⟨g2, c2, rfl, ?_, ?_⟩
      · refine ((HO.out.congr fun i hi => ?_).far3 (by omega)).mono (by omega)
        have hi2 : i / W < H := (Nat.div_lt_iff_lt_mul (by omega)).2 (by rw [← Nat.mul_comm W, ← HN.out]; exact hi)
        unfold mir flat
        rw [if_pos (by omega)]
      · exact below3' (by repeat first | exact Below.refl _ _ | apply Below.drew | apply below_alloc) HB.out (by simp; omega) (by omega)

end Go.Proofs.Ytdjjijkdalpggaa
