/- What small returns: a raster of 1 to 8 columns and rows. -/
import Derived.Test.YtdjjijkdalpggaaBuild
namespace Go.Proofs.Ytdjjijkdalpggaa
open Go Go.RowKit
set_option linter.unusedVariables false

/-- What is known of a slice of integers that came in. -/
def IsRow (k : IntKind) (w : World) (a : Option Addr) (len cap : Nat) (zs : List Int) : Prop :=
  (a = none ∧ len = 0 ∧ cap = 0 ∧ zs = []) ∨
  ∃ x, a = some x ∧ len ≤ cap ∧ cap ≤ maxLen ∧ zs.length = cap ∧ (∀ i, i < zs.length → w.cell? (x.add i) = some (.int k (zs.getD i 0))) ∧ ∀ n ∈ zs, (Lit.int k n).wf = true

theorem add_block (x : Addr) (i : Nat) : (x.add i).block = x.block := by unfold Addr.add; split <;> rfl
theorem cell_block {w : World} {x : Addr} {i : Nat} {v : Value} (h : w.cell? (x.add i) = some v) : x.block < w.heap.size := by
  rcases Nat.lt_or_ge x.block w.heap.size with h1 | h1
  · exact h1
  · rw [← add_block x i] at h1
    simp [World.cell?, Array.getElem?_eq_none h1] at h
theorem getD_mem (zs : List Int) (i : Nat) (h : i < zs.length) : zs.getD i 0 ∈ zs := by
  rw [List.getD_eq_getElem?_getD, List.getElem?_eq_getElem h]; exact List.getElem_mem h
theorem u8_range {z : Int} (h : (Lit.int .u8 z).wf = true) : 0 ≤ z ∧ z ≤ 255 := by
  simp [Lit.wf] at h
  have e1 : IntKind.u8.min = 0 := by decide
  have e2 : IntKind.u8.max = 255 := by decide
  rw [e1, e2] at h
  exact h

/-- The pixels that small chooses. -/
def sv (len : Nat) (zs : List Int) (i : Nat) : Int := if len = 0 then i else (zs.getD (i % len) 0 + (i / len : Nat)) % 256

theorem sv_range (len : Nat) (zs : List Int) (i : Nat) (h : i ≤ 255) : 0 ≤ sv len zs i ∧ sv len zs i ≤ 255 := by
  unfold sv; split <;> omega

/-- A raster's variable, whole: block b. -/
def Var3 (w : World) (b : Nat) (x y z : Value) : Prop := w.heap[b]? = some (.cells #[x, y, z] 25 (0, 0))
theorem Var3.lt {w : World} {b : Nat} {x y z : Value} (h : Var3 w b x y z) : b < w.heap.size := by
  rcases Nat.lt_or_ge b w.heap.size with h1 | h1
  · exact h1
  · unfold Var3 at h; rw [Array.getElem?_eq_none h1] at h; cases h
theorem Var3.read {w : World} {b : Nat} {x y z : Value} (h : Var3 w b x y z) :
    w.cell? ⟨b, 0, none⟩ = some x ∧ w.cell? ⟨b, 1, none⟩ = some y ∧ w.cell? ⟨b, 2, none⟩ = some z ∧ ∀ i, w.frozen? ⟨b, i, none⟩ = false := by
  unfold Var3 at h
  exact ⟨by simp [World.cell?, h], by simp [World.cell?, h], by simp [World.cell?, h], fun i => by simp [World.frozen?, h]⟩
theorem Var3.new (w : World) (x y z : Value) : Var3 (w.alloc (.cells #[x, y, z] 25)) w.heap.size x y z := heap_alloc_new w _
theorem Var3.keep {w w' : World} {b : Nat} {x y z : Value} (h : Var3 w b x y z) (hk : w'.heap[b]? = w.heap[b]?) : Var3 w' b x y z := hk.trans h
theorem Var3.alloc {w : World} {b : Nat} {x y z : Value} (h : Var3 w b x y z) (o : Obj) : Var3 (w.alloc o) b x y z := h.keep (Below.heap_alloc _ _ _ h.lt)
theorem Var3.drew {w : World} {b : Nat} {x y z : Value} (h : Var3 w b x y z) : Var3 w.drew b x y z := h
theorem Var3.below {w w' : World} {B b : Nat} {x y z : Value} (h : Var3 w b x y z) (hb : Below B w w') (hlt : b < B) : Var3 w' b x y z := h.keep (hb.block b hlt)
theorem Var3.far {w : World} {b : Nat} {x y z : Value} (h : Var3 w b x y z) {p : Addr} (hp : b ≠ p.block) (u : Value) : Var3 (w.setCell p u) b x y z := h.keep (Below.heap_setCell _ _ _ _ hp)
theorem Var3.set2 {w : World} {b : Nat} {x y z : Value} (h : Var3 w b x y z) (u : Value) : Var3 (w.setCell ⟨b, 2, none⟩ u) b x y u := by
  unfold Var3 at h ⊢
  simp [World.setCell, Array.getElem?_modify, h]
/-- Behind an append to a row of the call's own that is another block, or none. -/
theorem Var3.grown {w w' : World} {b : Nat} {x y z v : Value} (h : Var3 w b x y z) (hg : w.grownBy w' v.ownBlock) (hne : v.ownBlock ≠ some b) : Var3 w' b x y z :=
  h.keep (hg.block b h.lt (fun e => hne e.symm))

/-- A small raster: W, H in 1 to 8. -/
def Small (f : Nat → Int) (w : World) (e : Ending) (w' : World) : Prop :=
  ∃ W H g c : Nat, (1 ≤ W ∧ W ≤ 8) ∧ (1 ≤ H ∧ H ≤ 8) ∧ e = .returned (grid W H (.slice (some ⟨g, 0, none⟩) (W * H) c)) ∧ Own w' w.heap.size g (W * H) c f ∧ Below w.heap.size w w'

set_option maxHeartbeats 2000000 in
theorem small_nil (a b : Int) (cap : Nat) (zs : List Int) (ad : Option Addr) (w : World) :
    Calls Try.prog 13 #[.int .i64 a, .int .i64 b, .slice ad 0 cap] w (Small (sv 0 zs) w) := by
  obtain ⟨i0, hi, hz0, hz1, hz2⟩ := info_parts info5
  go_enter Try.func13, Try.ntmps13
  go_wp2_with fail
  (with_reducible refine (cut_in _ _ _ _ (by omega) (by omega) (by omega) (by omega)).mono ?_); rintro e w2 ⟨p, hp1, hp2, rfl, rfl⟩
  go_wp2_with fail
  (with_reducible refine (cut_in _ _ _ _ (by omega) (by omega) (by omega) (by omega)).mono ?_); rintro e w2 ⟨q, hq1, hq2, rfl, rfl⟩
  obtain ⟨W, rfl⟩ := Int.eq_ofNat_of_zero_le (show 0 ≤ p by omega)
  obtain ⟨H, rfl⟩ := Int.eq_ofNat_of_zero_le (show 0 ≤ q by omega)
  obtain ⟨m1, m2⟩ := mul_bds (show (0 : Int) ≤ W by omega) hp2 (show (0 : Int) ≤ H by omega) hq2
  go_wp2_with fail
  obtain ⟨N, hN⟩ : ∃ N : Nat, N = W * H := ⟨_, rfl⟩
  have hNz : (W : Int) * H = N := by rw [hN, Int.natCast_mul]
  have HN := hid hN
  have HZ := hid hNz
  have hN64 : N ≤ 64 := by omega
  rw [hNz]
  clear hN hNz m1 m2
  go_loopw [20] (fun s20 wr => ∃ (k : Nat) (v : Value), k ≤ N ∧ s20 = .int .i64 k ∧ Hid (Var3 wr (w.heap.size + 1) (.int .i64 W) (.int .i64 H) v) ∧ Hid (wr.ownsRow (w.heap.size + 2) 5 1 v k (pixs (sv 0 zs) k)) ∧ Hid (Below (w.heap.size + 1) (w.alloc (.cells #[.int .i64 0, .int .i64 0, .slice none 0 0] 25)) wr)) (fun s20 _ => N - (intOf s20).toNat)
  case atStart =>
    have h1 := Var3.new (w.alloc (.cells #[.int .i64 0, .int .i64 0, .slice none 0 0] 25)) (.int .i64 W) (.int .i64 H) (.slice none 0 0)
    rw [World.size_alloc] at h1
    exact ⟨0, _, Nat.zero_le _, rfl, hid h1, hid (World.ownsRow_nil _ _ _ _), hid ((Below.refl _ _).alloc (by simp) _)⟩
  case round =>
    obtain ⟨k, v, hk, rfl, HV, HO, HB⟩ := hrel
    obtain ⟨v0, v1, v2, vf⟩ := HV.out.read
    have hsz := HV.out.lt
    by_cases hlt : k < N
    · rcases HO.out.2 with ⟨rfl, hk0⟩ | ⟨g1, c1, cur, rfl, hg1, _⟩
      · subst hk0
        go_wp2_with
          (at_builtin
           refine wpList_append_lies _ rfl _ _ 22 rfl (w.heap.size + 2) 5 i0 (.int .u8 0) 1 1 Try.underlying22 hi hz0 hz1 hz2 rfl (by decide) (.slice none 0 0) 0 [] rfl
             (World.ownsRow_nil _ _ _ _) ⟨wr.heap.size, 0, none⟩ 1 1 [.int .u8 0] rfl rfl (cell_one_new _ _ _) (by simp [Value.oneCell']) (by omega) (by unfold maxLen; omega) (by omega) (by simp; omega) (wr.heap.size + 1) (by simp) ?_
           intro g3 c3 w3 hown3 hgrow3 hat3 hlt3
           have HV3 := hid ((HV.out.alloc _).grown hgrow3 (by simp [Value.ownBlock]))
           obtain ⟨q0, q1, q2, qf⟩ := HV3.out.read)
        have hO3 : Own w3 (w.heap.size + 2) g3 1 c3 (sv 0 zs) := by unfold Own; rw [pixs_snoc]; exact hown3
        have HB3 := hid (((HB.out.alloc (by omega) _).grown hgrow3 (by simp; omega) (fun _ h => by cases h)).setCell (p := ⟨w.heap.size + 1, 2, none⟩) (Nat.le_refl _) (.slice (some ⟨g3, 0, none⟩) 1 c3))
        go_roundw
        case rel => exact ⟨1, _, by omega, rfl, hid (HV3.out.set2 _), hid (hO3.far (p := ⟨w.heap.size + 1, 2, none⟩) (by have := hO3.lt.1; simp; omega) _), HB3⟩
        case measure => simp [intOf]; omega
      · have hO : Own wr (w.heap.size + 2) g1 k c1 (sv 0 zs) := HO.out
        have hwr : IntKind.u8.wrap (k : Int) = k := by rw [IntKind.wrap_u8]; omega
        go_wp2_with
          (at_builtin
           refine wpList_append_lies _ rfl _ _ 22 rfl (w.heap.size + 2) 5 i0 (.int .u8 0) 1 1 Try.underlying22 hi hz0 hz1 hz2 rfl (by decide) (.slice (some ⟨g1, 0, none⟩) k c1) k (pixs (sv 0 zs) k) rfl
             (World.ownsRow.alloc HO.out _) ⟨wr.heap.size, 0, none⟩ 1 1 [.int .u8 k] rfl rfl (cell_one_new _ _ _) (by simp [Value.oneCell']) (by omega) (by unfold maxLen; omega) (by omega) (by simp; omega) (wr.heap.size + 1) (by simp) ?_
           intro g3 c3 w3 hown3 hgrow3 hat3 hlt3
           have HV3 := hid ((HV.out.alloc _).grown hgrow3 (by simp [Value.ownBlock]; omega))
           obtain ⟨q0, q1, q2, qf⟩ := HV3.out.read)
        have hO3 : Own w3 (w.heap.size + 2) g3 (k + 1) c3 (sv 0 zs) := by unfold Own; rw [pixs_snoc]; exact hown3
        have HB3 := hid ((below_own (HB.out.alloc (by omega) _) hgrow3 (by simp; omega) (by omega)).setCell (p := ⟨w.heap.size + 1, 2, none⟩) (Nat.le_refl _) (.slice (some ⟨g3, 0, none⟩) (k + 1) c3))
        go_roundw
        case rel => exact ⟨k + 1, _, by omega, by go_num, hid (HV3.out.set2 _), hid (hO3.far (p := ⟨w.heap.size + 1, 2, none⟩) (by have := hO3.lt.1; simp; omega) _), HB3⟩
        case measure => simp [intOf]; omega
    · obtain ⟨x0, x1, x2, xf⟩ := box3 HB.out
      obtain rfl : k = N := by omega
      have hkp : 1 ≤ k := by rw [HN.out]; exact Nat.mul_pos (by omega) (by omega)
      rcases HO.out.2 with ⟨rfl, hk0⟩ | ⟨g1, c1, cur, rfl, hg1, _⟩
      · omega
      · have hO : Own wr (w.heap.size + 2) g1 k c1 (sv 0 zs) := HO.out
        go_wp2
        refine bodyPost_ret (v := grid W H (.slice (some ⟨g1, 0, none⟩) k c1)) (by simp [results, Try.results13, go_sem, *]) rfl ⟨W, H, g1, c1, ⟨by omega, by omega⟩, ⟨by omega, by omega⟩, by rw [HN.out], ?_, ?_⟩
        · rw [← HN.out]; exact (hO.far3 (by omega)).mono (by omega)
        · exact below3' ((Below.refl _ _).alloc (Nat.le_refl _) _) HB.out (by simp) (Nat.le_refl _)

set_option maxHeartbeats 2000000 in
theorem small_row (a b : Int) (x : Addr) (len cap : Nat) (zs : List Int) (w : World) (hl : 0 < len) (hlc : len ≤ cap) (hm : cap ≤ maxLen) (hz : zs.length = cap)
    (hcs : ∀ i, i < zs.length → w.cell? (x.add i) = some (.int .u8 (zs.getD i 0))) (hwf : ∀ n ∈ zs, (Lit.int .u8 n).wf = true) :
    Calls Try.prog 13 #[.int .i64 a, .int .i64 b, .slice (some x) len cap] w (Small (sv len zs) w) := by
  unfold maxLen at hm
  have HCS := hid hcs
  have HWF := hid hwf
  have hzl : len ≤ zs.length := by omega
  have hxb := cell_block (hcs 0 (by omega))
  clear hcs hwf hz
  obtain ⟨i0, hi, hz0, hz1, hz2⟩ := info_parts info5
  go_enter Try.func13, Try.ntmps13
  go_wp2_with fail
  (with_reducible refine (cut_in _ _ _ _ (by omega) (by omega) (by omega) (by omega)).mono ?_); rintro e w2 ⟨p, hp1, hp2, rfl, rfl⟩
  go_wp2_with fail
  (with_reducible refine (cut_in _ _ _ _ (by omega) (by omega) (by omega) (by omega)).mono ?_); rintro e w2 ⟨q, hq1, hq2, rfl, rfl⟩
  obtain ⟨W, rfl⟩ := Int.eq_ofNat_of_zero_le (show 0 ≤ p by omega)
  obtain ⟨H, rfl⟩ := Int.eq_ofNat_of_zero_le (show 0 ≤ q by omega)
  obtain ⟨m1, m2⟩ := mul_bds (show (0 : Int) ≤ W by omega) hp2 (show (0 : Int) ≤ H by omega) hq2
  go_wp2_with fail
  obtain ⟨N, hN⟩ : ∃ N : Nat, N = W * H := ⟨_, rfl⟩
  have hNz : (W : Int) * H = N := by rw [hN, Int.natCast_mul]
  have HN := hid hN
  have HZ := hid hNz
  have hN64 : N ≤ 64 := by omega
  rw [hNz]
  clear hN hNz m1 m2
  go_loopw [20] (fun s20 wr => ∃ (k : Nat) (v : Value), k ≤ N ∧ s20 = .int .i64 k ∧ Hid (Var3 wr (w.heap.size + 1) (.int .i64 W) (.int .i64 H) v) ∧ Hid (wr.ownsRow (w.heap.size + 2) 5 1 v k (pixs (sv len zs) k)) ∧ Hid (Below (w.heap.size + 1) (w.alloc (.cells #[.int .i64 0, .int .i64 0, .slice none 0 0] 25)) wr)) (fun s20 _ => N - (intOf s20).toNat)
  case atStart =>
    have h1 := Var3.new (w.alloc (.cells #[.int .i64 0, .int .i64 0, .slice none 0 0] 25)) (.int .i64 W) (.int .i64 H) (.slice none 0 0)
    rw [World.size_alloc] at h1
    exact ⟨0, _, Nat.zero_le _, rfl, hid h1, hid (World.ownsRow_nil _ _ _ _), hid ((Below.refl _ _).alloc (by simp) _)⟩
  case round =>
    obtain ⟨k, v, hk, rfl, HV, HO, HB⟩ := hrel
    obtain ⟨v0, v1, v2, vf⟩ := HV.out.read
    have hsz := HV.out.lt
    by_cases hlt : k < N
    · have hr := Nat.mod_lt k hl
      obtain ⟨z, ez⟩ : ∃ z, z = zs.getD (k % len) 0 := ⟨_, rfl⟩
      have hcell0 := HCS.out (k % len) (by omega)
      have hcell1 : wr.cell? (x.add (k % len)) = some (.int .u8 z) := by
        rw [ez, ← hcell0]
        exact (HB.out.cell (p := x.add (k % len)) (by rw [add_block]; omega)).trans (World.cell?_of_block (by rw [add_block]; exact Below.heap_alloc _ _ _ hxb))
      have hz0' : 0 ≤ z ∧ z ≤ 255 := u8_range (by rw [ez]; exact HWF.out _ (getD_mem zs _ (by omega)))
      have hsv : (z + (k : Int) / (len : Int)) % 256 = sv len zs k := by unfold sv; rw [if_neg (by omega), ← ez, Int.natCast_ediv]
      have HSV := hid hsv
      have hq0 : k / len ≤ k := Nat.div_le_self _ _
      have hr0 : (0 : Int) ≤ (k : Int) % (len : Int) := by omega
      have hr1 : (k : Int) % (len : Int) < (len : Int) := by omega
      have hlp : (0 : Int) < (len : Int) := by omega
      have hqa : (0 : Int) ≤ (k : Int) / (len : Int) := by rw [← Int.natCast_ediv]; exact Int.natCast_nonneg _
      have hqb : (k : Int) / (len : Int) ≤ 64 := by rw [← Int.natCast_ediv]; omega
      clear hcell0 ez hsv
      rcases HO.out.2 with ⟨rfl, hk0⟩ | ⟨g1, c1, cur, rfl, hg1, _⟩
      · clear hk0
        go_wp2_with fail
        go_quiet (fail)
        rw [HSV.out]
        rename_i nq
        generalize hwd : wr.drewN nq = wd
        have HVd : Hid (Var3 wd (w.heap.size + 1) (.int .i64 W) (.int .i64 H) (.slice none 0 0)) := by rw [← hwd]; exact HV
        have HOd : Hid (wd.ownsRow (w.heap.size + 2) 5 1 (.slice none 0 0) k (pixs (sv len zs) k)) := by rw [← hwd]; exact HO
        have HBd : Hid (Below (w.heap.size + 1) (w.alloc (.cells #[.int .i64 0, .int .i64 0, .slice none 0 0] 25)) wd) := by rw [← hwd]; exact below_drewN HB.out _
        have hszd : w.heap.size + 1 < wd.heap.size := HVd.out.lt
        obtain ⟨d0, d1, d2, df⟩ := HVd.out.read
        clear hwd v0 v1 v2 vf
        go_wp2_with
          (at_builtin
           refine wpList_append_lies _ rfl _ _ 22 rfl (w.heap.size + 2) 5 i0 (.int .u8 0) 1 1 Try.underlying22 hi hz0 hz1 hz2 rfl (by decide) (.slice none 0 0) k (pixs (sv len zs) k) rfl
             (World.ownsRow.alloc HOd.out _) ⟨wd.heap.size, 0, none⟩ 1 1 [.int .u8 (sv len zs k)] rfl rfl (cell_one_new _ _ _) (by simp [Value.oneCell']) (by omega) (by unfold maxLen; omega) (by omega) (by simp; omega) (wd.heap.size + 1) (by simp) ?_
           intro g3 c3 w3 hown3 hgrow3 hat3 hlt3
           have HV3 := hid ((HVd.out.alloc _).grown hgrow3 (by simp [Value.ownBlock]))
           obtain ⟨q0, q1, q2, qf⟩ := HV3.out.read)
        have hO3 : Own w3 (w.heap.size + 2) g3 (k + 1) c3 (sv len zs) := by unfold Own; rw [pixs_snoc]; exact hown3
        have HB3 := hid (((HBd.out.alloc (by omega) _).grown hgrow3 (by simp; omega) (fun _ h => by cases h)).setCell (p := ⟨w.heap.size + 1, 2, none⟩) (Nat.le_refl _) (.slice (some ⟨g3, 0, none⟩) (k + 1) c3))
        go_roundw
        case rel => exact ⟨k + 1, _, by omega, by go_num, hid (HV3.out.set2 _), hid (hO3.far (p := ⟨w.heap.size + 1, 2, none⟩) (by have := hO3.lt.1; simp; omega) _), HB3⟩
        case measure => simp [intOf]; omega
      · have hO : Own wr (w.heap.size + 2) g1 k c1 (sv len zs) := HO.out
        have hwr : IntKind.u8.wrap (k : Int) = k := by rw [IntKind.wrap_u8]; omega
        go_wp2_with fail
        go_quiet (fail)
        rw [HSV.out]
        rename_i nq
        generalize hwd : wr.drewN nq = wd
        have HVd : Hid (Var3 wd (w.heap.size + 1) (.int .i64 W) (.int .i64 H) (.slice (some ⟨g1, 0, none⟩) k c1)) := by rw [← hwd]; exact HV
        have HOd : Hid (wd.ownsRow (w.heap.size + 2) 5 1 (.slice (some ⟨g1, 0, none⟩) k c1) k (pixs (sv len zs) k)) := by rw [← hwd]; exact HO
        have HBd : Hid (Below (w.heap.size + 1) (w.alloc (.cells #[.int .i64 0, .int .i64 0, .slice none 0 0] 25)) wd) := by rw [← hwd]; exact below_drewN HB.out _
        have hszd : w.heap.size + 1 < wd.heap.size := HVd.out.lt
        obtain ⟨d0, d1, d2, df⟩ := HVd.out.read
        clear hwd v0 v1 v2 vf
        go_wp2_with
          (at_builtin
           refine wpList_append_lies _ rfl _ _ 22 rfl (w.heap.size + 2) 5 i0 (.int .u8 0) 1 1 Try.underlying22 hi hz0 hz1 hz2 rfl (by decide) (.slice (some ⟨g1, 0, none⟩) k c1) k (pixs (sv len zs) k) rfl
             (World.ownsRow.alloc HOd.out _) ⟨wd.heap.size, 0, none⟩ 1 1 [.int .u8 (sv len zs k)] rfl rfl (cell_one_new _ _ _) (by simp [Value.oneCell']) (by omega) (by unfold maxLen; omega) (by omega) (by simp; omega) (wd.heap.size + 1) (by simp) ?_
           intro g3 c3 w3 hown3 hgrow3 hat3 hlt3
           have HV3 := hid ((HVd.out.alloc _).grown hgrow3 (by simp [Value.ownBlock]; omega))
           obtain ⟨q0, q1, q2, qf⟩ := HV3.out.read)
        have hO3 : Own w3 (w.heap.size + 2) g3 (k + 1) c3 (sv len zs) := by unfold Own; rw [pixs_snoc]; exact hown3
        have HB3 := hid ((below_own (HBd.out.alloc (by omega) _) hgrow3 (by simp; omega) (by omega)).setCell (p := ⟨w.heap.size + 1, 2, none⟩) (Nat.le_refl _) (.slice (some ⟨g3, 0, none⟩) (k + 1) c3))
        go_roundw
        case rel => exact ⟨k + 1, _, by omega, by go_num, hid (HV3.out.set2 _), hid (hO3.far (p := ⟨w.heap.size + 1, 2, none⟩) (by have := hO3.lt.1; simp; omega) _), HB3⟩
        case measure => simp [intOf]; omega
    · obtain ⟨x0, x1, x2, xf⟩ := box3 HB.out
      obtain rfl : k = N := by omega
      have hkp : 1 ≤ k := by rw [HN.out]; exact Nat.mul_pos (by omega) (by omega)
      rcases HO.out.2 with ⟨rfl, hk0⟩ | ⟨g1, c1, cur, rfl, hg1, _⟩
      · omega
      · have hO : Own wr (w.heap.size + 2) g1 k c1 (sv len zs) := HO.out
        go_wp2
        refine bodyPost_ret (v := grid W H (.slice (some ⟨g1, 0, none⟩) k c1)) (by simp [results, Try.results13, go_sem, *]) rfl ⟨W, H, g1, c1, ⟨by omega, by omega⟩, ⟨by omega, by omega⟩, by rw [HN.out], ?_, ?_⟩
        · rw [← HN.out]; exact (hO.far3 (by omega)).mono (by omega)
        · exact below3' ((Below.refl _ _).alloc (Nat.le_refl _) _) HB.out (by simp) (Nat.le_refl _)

set_option maxHeartbeats 2000000 in
theorem smalll_nil (a b : Int) (cap : Nat) (zs : List Int) (ad : Option Addr) (w : World) :
    Calls Try.prog 27 #[.int .i64 a, .int .i64 b, .slice ad 0 cap] w (Small (sv 0 zs) w) := by
  obtain ⟨i0, hi, hz0, hz1, hz2⟩ := info_parts info5
  go_enter Try.func27, Try.ntmps27
  go_wp2_with fail
  (with_reducible refine (cutl_in _ _ _ _ (by omega) (by omega) (by omega) (by omega)).mono ?_); rintro e w2 ⟨p, hp1, hp2, rfl, rfl⟩
  go_wp2_with fail
  (with_reducible refine (cutl_in _ _ _ _ (by omega) (by omega) (by omega) (by omega)).mono ?_); rintro e w2 ⟨q, hq1, hq2, rfl, rfl⟩
  obtain ⟨W, rfl⟩ := Int.eq_ofNat_of_zero_le (show 0 ≤ p by omega)
  obtain ⟨H, rfl⟩ := Int.eq_ofNat_of_zero_le (show 0 ≤ q by omega)
  obtain ⟨m1, m2⟩ := mul_bds (show (0 : Int) ≤ W by omega) hp2 (show (0 : Int) ≤ H by omega) hq2
  go_wp2_with fail
  obtain ⟨N, hN⟩ : ∃ N : Nat, N = W * H := ⟨_, rfl⟩
  have hNz : (W : Int) * H = N := by rw [hN, Int.natCast_mul]
  have HN := hid hN
  have HZ := hid hNz
  have hN64 : N ≤ 64 := by omega
  clear hN hNz
  go_loopw [8] (fun s20 wr => ∃ (k : Nat) (v : Value), k ≤ N ∧ s20 = .int .i64 k ∧ Hid (Var3 wr (w.heap.size + 1) (.int .i64 W) (.int .i64 H) v) ∧ Hid (wr.ownsRow (w.heap.size + 2) 5 1 v k (pixs (sv 0 zs) k)) ∧ Hid (Below (w.heap.size + 1) (w.alloc (.cells #[.int .i64 0, .int .i64 0, .slice none 0 0] 25)) wr)) (fun s20 _ => N - (intOf s20).toNat)
  case atStart =>
    have h1 := Var3.new (w.alloc (.cells #[.int .i64 0, .int .i64 0, .slice none 0 0] 25)) (.int .i64 W) (.int .i64 H) (.slice none 0 0)
    rw [World.size_alloc] at h1
    exact ⟨0, _, Nat.zero_le _, rfl, hid h1, hid (World.ownsRow_nil _ _ _ _), hid ((Below.refl _ _).alloc (by simp) _)⟩
  case round =>
    obtain ⟨k, v, hk, rfl, HV, HO, HB⟩ := hrel
    obtain ⟨v0, v1, v2, vf⟩ := HV.out.read
    have hsz := HV.out.lt
    by_cases hlt : k < N
    · have hlz : (k : Int) < (W : Int) * H := by rw [HZ.out]; omega
      rcases HO.out.2 with ⟨rfl, hk0⟩ | ⟨g1, c1, cur, rfl, hg1, _⟩
      · subst hk0
        go_wp2_with
          (at_builtin
           refine wpList_append_lies _ rfl _ _ 22 rfl (w.heap.size + 2) 5 i0 (.int .u8 0) 1 1 Try.underlying22 hi hz0 hz1 hz2 rfl (by decide) (.slice none 0 0) 0 [] rfl
             (World.ownsRow_nil _ _ _ _) ⟨wr.heap.size, 0, none⟩ 1 1 [.int .u8 0] rfl rfl (cell_one_new _ _ _) (by simp [Value.oneCell']) (by omega) (by unfold maxLen; omega) (by omega) (by simp; omega) (wr.heap.size + 1) (by simp) ?_
           intro g3 c3 w3 hown3 hgrow3 hat3 hlt3
           have HV3 := hid ((HV.out.alloc _).grown hgrow3 (by simp [Value.ownBlock]))
           obtain ⟨q0, q1, q2, qf⟩ := HV3.out.read)
        have hO3 : Own w3 (w.heap.size + 2) g3 1 c3 (sv 0 zs) := by unfold Own; rw [pixs_snoc]; exact hown3
        have HB3 := hid (((HB.out.alloc (by omega) _).grown hgrow3 (by simp; omega) (fun _ h => by cases h)).setCell (p := ⟨w.heap.size + 1, 2, none⟩) (Nat.le_refl _) (.slice (some ⟨g3, 0, none⟩) 1 c3))
        go_roundw
        case rel => exact ⟨1, _, by omega, rfl, hid (HV3.out.set2 _), hid (hO3.far (p := ⟨w.heap.size + 1, 2, none⟩) (by have := hO3.lt.1; simp; omega) _), HB3⟩
        case measure => simp [intOf]; omega
      · have hO : Own wr (w.heap.size + 2) g1 k c1 (sv 0 zs) := HO.out
        have hwr : IntKind.u8.wrap (k : Int) = k := by rw [IntKind.wrap_u8]; omega
        go_wp2_with
          (at_builtin
           refine wpList_append_lies _ rfl _ _ 22 rfl (w.heap.size + 2) 5 i0 (.int .u8 0) 1 1 Try.underlying22 hi hz0 hz1 hz2 rfl (by decide) (.slice (some ⟨g1, 0, none⟩) k c1) k (pixs (sv 0 zs) k) rfl
             (World.ownsRow.alloc HO.out _) ⟨wr.heap.size, 0, none⟩ 1 1 [.int .u8 k] rfl rfl (cell_one_new _ _ _) (by simp [Value.oneCell']) (by omega) (by unfold maxLen; omega) (by omega) (by simp; omega) (wr.heap.size + 1) (by simp) ?_
           intro g3 c3 w3 hown3 hgrow3 hat3 hlt3
           have HV3 := hid ((HV.out.alloc _).grown hgrow3 (by simp [Value.ownBlock]; omega))
           obtain ⟨q0, q1, q2, qf⟩ := HV3.out.read)
        have hO3 : Own w3 (w.heap.size + 2) g3 (k + 1) c3 (sv 0 zs) := by unfold Own; rw [pixs_snoc]; exact hown3
        have HB3 := hid ((below_own (HB.out.alloc (by omega) _) hgrow3 (by simp; omega) (by omega)).setCell (p := ⟨w.heap.size + 1, 2, none⟩) (Nat.le_refl _) (.slice (some ⟨g3, 0, none⟩) (k + 1) c3))
        go_roundw
        case rel => exact ⟨k + 1, _, by omega, by go_num, hid (HV3.out.set2 _), hid (hO3.far (p := ⟨w.heap.size + 1, 2, none⟩) (by have := hO3.lt.1; simp; omega) _), HB3⟩
        case measure => simp [intOf]; omega
    · have hlz : (W : Int) * H ≤ (k : Int) := by rw [HZ.out]; omega
      obtain ⟨x0, x1, x2, xf⟩ := box3 HB.out
      obtain rfl : k = N := by omega
      have hkp : 1 ≤ k := by rw [HN.out]; exact Nat.mul_pos (by omega) (by omega)
      rcases HO.out.2 with ⟨rfl, hk0⟩ | ⟨g1, c1, cur, rfl, hg1, _⟩
      · omega
      · have hO : Own wr (w.heap.size + 2) g1 k c1 (sv 0 zs) := HO.out
        go_wp2
        refine bodyPost_ret (v := grid W H (.slice (some ⟨g1, 0, none⟩) k c1)) (by simp [results, Try.results27, go_sem, *]) rfl ⟨W, H, g1, c1, ⟨by omega, by omega⟩, ⟨by omega, by omega⟩, by rw [HN.out], ?_, ?_⟩
        · rw [← HN.out]; exact (hO.far3 (by omega)).mono (by omega)
        · exact below3' ((Below.refl _ _).alloc (Nat.le_refl _) _) HB.out (by simp) (Nat.le_refl _)

set_option maxHeartbeats 2000000 in
theorem smalll_row (a b : Int) (x : Addr) (len cap : Nat) (zs : List Int) (w : World) (hl : 0 < len) (hlc : len ≤ cap) (hm : cap ≤ maxLen) (hz : zs.length = cap)
    (hcs : ∀ i, i < zs.length → w.cell? (x.add i) = some (.int .u8 (zs.getD i 0))) (hwf : ∀ n ∈ zs, (Lit.int .u8 n).wf = true) :
    Calls Try.prog 27 #[.int .i64 a, .int .i64 b, .slice (some x) len cap] w (Small (sv len zs) w) := by
  unfold maxLen at hm
  have HCS := hid hcs
  have HWF := hid hwf
  have hzl : len ≤ zs.length := by omega
  have hxb := cell_block (hcs 0 (by omega))
  clear hcs hwf hz
  obtain ⟨i0, hi, hz0, hz1, hz2⟩ := info_parts info5
  go_enter Try.func27, Try.ntmps27
  go_wp2_with fail
  (with_reducible refine (cutl_in _ _ _ _ (by omega) (by omega) (by omega) (by omega)).mono ?_); rintro e w2 ⟨p, hp1, hp2, rfl, rfl⟩
  go_wp2_with fail
  (with_reducible refine (cutl_in _ _ _ _ (by omega) (by omega) (by omega) (by omega)).mono ?_); rintro e w2 ⟨q, hq1, hq2, rfl, rfl⟩
  obtain ⟨W, rfl⟩ := Int.eq_ofNat_of_zero_le (show 0 ≤ p by omega)
  obtain ⟨H, rfl⟩ := Int.eq_ofNat_of_zero_le (show 0 ≤ q by omega)
  obtain ⟨m1, m2⟩ := mul_bds (show (0 : Int) ≤ W by omega) hp2 (show (0 : Int) ≤ H by omega) hq2
  go_wp2_with fail
  obtain ⟨N, hN⟩ : ∃ N : Nat, N = W * H := ⟨_, rfl⟩
  have hNz : (W : Int) * H = N := by rw [hN, Int.natCast_mul]
  have HN := hid hN
  have HZ := hid hNz
  have hN64 : N ≤ 64 := by omega
  clear hN hNz
  go_loopw [8] (fun s20 wr => ∃ (k : Nat) (v : Value), k ≤ N ∧ s20 = .int .i64 k ∧ Hid (Var3 wr (w.heap.size + 1) (.int .i64 W) (.int .i64 H) v) ∧ Hid (wr.ownsRow (w.heap.size + 2) 5 1 v k (pixs (sv len zs) k)) ∧ Hid (Below (w.heap.size + 1) (w.alloc (.cells #[.int .i64 0, .int .i64 0, .slice none 0 0] 25)) wr)) (fun s20 _ => N - (intOf s20).toNat)
  case atStart =>
    have h1 := Var3.new (w.alloc (.cells #[.int .i64 0, .int .i64 0, .slice none 0 0] 25)) (.int .i64 W) (.int .i64 H) (.slice none 0 0)
    rw [World.size_alloc] at h1
    exact ⟨0, _, Nat.zero_le _, rfl, hid h1, hid (World.ownsRow_nil _ _ _ _), hid ((Below.refl _ _).alloc (by simp) _)⟩
  case round =>
    obtain ⟨k, v, hk, rfl, HV, HO, HB⟩ := hrel
    obtain ⟨v0, v1, v2, vf⟩ := HV.out.read
    have hsz := HV.out.lt
    by_cases hlt : k < N
    · have hlz : (k : Int) < (W : Int) * H := by rw [HZ.out]; omega
      have hr := Nat.mod_lt k hl
      obtain ⟨z, ez⟩ : ∃ z, z = zs.getD (k % len) 0 := ⟨_, rfl⟩
      have hcell0 := HCS.out (k % len) (by omega)
      have hcell1 : wr.cell? (x.add (k % len)) = some (.int .u8 z) := by
        rw [ez, ← hcell0]
        exact (HB.out.cell (p := x.add (k % len)) (by rw [add_block]; omega)).trans (World.cell?_of_block (by rw [add_block]; exact Below.heap_alloc _ _ _ hxb))
      have hz0' : 0 ≤ z ∧ z ≤ 255 := u8_range (by rw [ez]; exact HWF.out _ (getD_mem zs _ (by omega)))
      have hsv : (z + (k : Int) / (len : Int)) % 256 = sv len zs k := by unfold sv; rw [if_neg (by omega), ← ez, Int.natCast_ediv]
      have HSV := hid hsv
      have hq0 : k / len ≤ k := Nat.div_le_self _ _
      have hr0 : (0 : Int) ≤ (k : Int) % (len : Int) := by omega
      have hr1 : (k : Int) % (len : Int) < (len : Int) := by omega
      have hlp : (0 : Int) < (len : Int) := by omega
      have hqa : (0 : Int) ≤ (k : Int) / (len : Int) := by rw [← Int.natCast_ediv]; exact Int.natCast_nonneg _
      have hqb : (k : Int) / (len : Int) ≤ 64 := by rw [← Int.natCast_ediv]; omega
      clear hcell0 ez hsv
      rcases HO.out.2 with ⟨rfl, hk0⟩ | ⟨g1, c1, cur, rfl, hg1, _⟩
      · clear hk0
        go_wp2_with fail
        go_quiet (fail)
        rw [HSV.out]
        rename_i nq
        generalize hwd : wr.drewN nq = wd
        have HVd : Hid (Var3 wd (w.heap.size + 1) (.int .i64 W) (.int .i64 H) (.slice none 0 0)) := by rw [← hwd]; exact HV
        have HOd : Hid (wd.ownsRow (w.heap.size + 2) 5 1 (.slice none 0 0) k (pixs (sv len zs) k)) := by rw [← hwd]; exact HO
        have HBd : Hid (Below (w.heap.size + 1) (w.alloc (.cells #[.int .i64 0, .int .i64 0, .slice none 0 0] 25)) wd) := by rw [← hwd]; exact below_drewN HB.out _
        have hszd : w.heap.size + 1 < wd.heap.size := HVd.out.lt
        obtain ⟨d0, d1, d2, df⟩ := HVd.out.read
        clear hwd v0 v1 v2 vf
        go_wp2_with
          (at_builtin
           refine wpList_append_lies _ rfl _ _ 22 rfl (w.heap.size + 2) 5 i0 (.int .u8 0) 1 1 Try.underlying22 hi hz0 hz1 hz2 rfl (by decide) (.slice none 0 0) k (pixs (sv len zs) k) rfl
             (World.ownsRow.alloc HOd.out _) ⟨wd.heap.size, 0, none⟩ 1 1 [.int .u8 (sv len zs k)] rfl rfl (cell_one_new _ _ _) (by simp [Value.oneCell']) (by omega) (by unfold maxLen; omega) (by omega) (by simp; omega) (wd.heap.size + 1) (by simp) ?_
           intro g3 c3 w3 hown3 hgrow3 hat3 hlt3
           have HV3 := hid ((HVd.out.alloc _).grown hgrow3 (by simp [Value.ownBlock]))
           obtain ⟨q0, q1, q2, qf⟩ := HV3.out.read)
        have hO3 : Own w3 (w.heap.size + 2) g3 (k + 1) c3 (sv len zs) := by unfold Own; rw [pixs_snoc]; exact hown3
        have HB3 := hid (((HBd.out.alloc (by omega) _).grown hgrow3 (by simp; omega) (fun _ h => by cases h)).setCell (p := ⟨w.heap.size + 1, 2, none⟩) (Nat.le_refl _) (.slice (some ⟨g3, 0, none⟩) (k + 1) c3))
        go_roundw
        case rel => exact ⟨k + 1, _, by omega, by go_num, hid (HV3.out.set2 _), hid (hO3.far (p := ⟨w.heap.size + 1, 2, none⟩) (by have := hO3.lt.1; simp; omega) _), HB3⟩
        case measure => simp [intOf]; omega
      · have hO : Own wr (w.heap.size + 2) g1 k c1 (sv len zs) := HO.out
        have hwr : IntKind.u8.wrap (k : Int) = k := by rw [IntKind.wrap_u8]; omega
        go_wp2_with fail
        go_quiet (fail)
        rw [HSV.out]
        rename_i nq
        generalize hwd : wr.drewN nq = wd
        have HVd : Hid (Var3 wd (w.heap.size + 1) (.int .i64 W) (.int .i64 H) (.slice (some ⟨g1, 0, none⟩) k c1)) := by rw [← hwd]; exact HV
        have HOd : Hid (wd.ownsRow (w.heap.size + 2) 5 1 (.slice (some ⟨g1, 0, none⟩) k c1) k (pixs (sv len zs) k)) := by rw [← hwd]; exact HO
        have HBd : Hid (Below (w.heap.size + 1) (w.alloc (.cells #[.int .i64 0, .int .i64 0, .slice none 0 0] 25)) wd) := by rw [← hwd]; exact below_drewN HB.out _
        have hszd : w.heap.size + 1 < wd.heap.size := HVd.out.lt
        obtain ⟨d0, d1, d2, df⟩ := HVd.out.read
        clear hwd v0 v1 v2 vf
        go_wp2_with
          (at_builtin
           refine wpList_append_lies _ rfl _ _ 22 rfl (w.heap.size + 2) 5 i0 (.int .u8 0) 1 1 Try.underlying22 hi hz0 hz1 hz2 rfl (by decide) (.slice (some ⟨g1, 0, none⟩) k c1) k (pixs (sv len zs) k) rfl
             (World.ownsRow.alloc HOd.out _) ⟨wd.heap.size, 0, none⟩ 1 1 [.int .u8 (sv len zs k)] rfl rfl (cell_one_new _ _ _) (by simp [Value.oneCell']) (by omega) (by unfold maxLen; omega) (by omega) (by simp; omega) (wd.heap.size + 1) (by simp) ?_
           intro g3 c3 w3 hown3 hgrow3 hat3 hlt3
           have HV3 := hid ((HVd.out.alloc _).grown hgrow3 (by simp [Value.ownBlock]; omega))
           obtain ⟨q0, q1, q2, qf⟩ := HV3.out.read)
        have hO3 : Own w3 (w.heap.size + 2) g3 (k + 1) c3 (sv len zs) := by unfold Own; rw [pixs_snoc]; exact hown3
        have HB3 := hid ((below_own (HBd.out.alloc (by omega) _) hgrow3 (by simp; omega) (by omega)).setCell (p := ⟨w.heap.size + 1, 2, none⟩) (Nat.le_refl _) (.slice (some ⟨g3, 0, none⟩) (k + 1) c3))
        go_roundw
        case rel => exact ⟨k + 1, _, by omega, by go_num, hid (HV3.out.set2 _), hid (hO3.far (p := ⟨w.heap.size + 1, 2, none⟩) (by have := hO3.lt.1; simp; omega) _), HB3⟩
        case measure => simp [intOf]; omega
    · have hlz : (W : Int) * H ≤ (k : Int) := by rw [HZ.out]; omega
      obtain ⟨x0, x1, x2, xf⟩ := box3 HB.out
      obtain rfl : k = N := by omega
      have hkp : 1 ≤ k := by rw [HN.out]; exact Nat.mul_pos (by omega) (by omega)
      rcases HO.out.2 with ⟨rfl, hk0⟩ | ⟨g1, c1, cur, rfl, hg1, _⟩
      · omega
      · have hO : Own wr (w.heap.size + 2) g1 k c1 (sv len zs) := HO.out
        go_wp2
        refine bodyPost_ret (v := grid W H (.slice (some ⟨g1, 0, none⟩) k c1)) (by simp [results, Try.results27, go_sem, *]) rfl ⟨W, H, g1, c1, ⟨by omega, by omega⟩, ⟨by omega, by omega⟩, by rw [HN.out], ?_, ?_⟩
        · rw [← HN.out]; exact (hO.far3 (by omega)).mono (by omega)
        · exact below3' ((Below.refl _ _).alloc (Nat.le_refl _) _) HB.out (by simp) (Nat.le_refl _)

theorem small_any (a b : Int) (ad : Option Addr) (len cap : Nat) (zs : List Int) (w : World) (h : IsRow .u8 w ad len cap zs) :
    Calls Try.prog 13 #[.int .i64 a, .int .i64 b, .slice ad len cap] w (Small (sv len zs) w) := by
  rcases Nat.eq_zero_or_pos len with rfl | hl
  · exact small_nil a b cap zs ad w
  · rcases h with ⟨rfl, rfl, rfl, rfl⟩ | ⟨x, rfl, h1, h2, h3, h4, h5⟩
    · omega
    · exact small_row a b x len cap zs w hl h1 h2 h3 h4 h5

theorem smalll_any (a b : Int) (ad : Option Addr) (len cap : Nat) (zs : List Int) (w : World) (h : IsRow .u8 w ad len cap zs) :
    Calls Try.prog 27 #[.int .i64 a, .int .i64 b, .slice ad len cap] w (Small (sv len zs) w) := by
  rcases Nat.eq_zero_or_pos len with rfl | hl
  · exact smalll_nil a b cap zs ad w
  · rcases h with ⟨rfl, rfl, rfl, rfl⟩ | ⟨x, rfl, h1, h2, h3, h4, h5⟩
    · omega
    · exact smalll_row a b x len cap zs w hl h1 h2 h3 h4 h5

theorem cell_old {w : World} {x : Addr} {v : Value} (h : w.cell? x = some v) : x.block < w.heap.size := by
  rcases Nat.lt_or_ge x.block w.heap.size with h1 | h1
  · exact h1
  · simp [World.cell?, Array.getElem?_eq_none h1] at h

/-- What is known of a slice that came in stays known where what was there stays. -/
theorem IsRow.below {k : IntKind} {w w' : World} {ad : Option Addr} {len cap : Nat} {zs : List Int} (h : IsRow k w ad len cap zs) (hb : Below w.heap.size w w') : IsRow k w' ad len cap zs := by
  rcases h with h | ⟨x, h0, h1, h2, h3, h4, h5⟩
  · exact .inl h
  · exact .inr ⟨x, h0, h1, h2, h3, fun i hi => (hb.cell (cell_old (h4 i hi))).trans (h4 i hi), h5⟩

end Go.Proofs.Ytdjjijkdalpggaa
