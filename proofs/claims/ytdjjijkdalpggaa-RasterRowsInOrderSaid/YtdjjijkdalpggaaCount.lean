/- What Map returns for a function that counts its calls. -/
import Derived.Test.YtdjjijkdalpggaaMap
namespace Go.Proofs.Ytdjjijkdalpggaa
open Go Go.RowKit
set_option linter.unusedVariables false

/-- The first n values of f, as cells of the kind int. -/
def pixi (f : Nat → Int) (n : Nat) : List Value := (List.range n).map fun i => .int .i64 (f i)
theorem pixi_length (f : Nat → Int) (n : Nat) : (pixi f n).length = n := by simp [pixi]
theorem pixi_at (f : Nat → Int) (n i : Nat) (h : i < n) : (pixi f n)[i]? = some (.int .i64 (f i)) := by simp [pixi, h]
theorem pixi_snoc (f : Nat → Int) (n : Nat) : pixi f (n + 1) = pixi f n ++ [.int .i64 (f n)] := by simp [pixi, List.range_succ]

def OwnI (w : World) (B : Nat) (g n c : Nat) (f : Nat → Int) : Prop := w.ownsRow B 3 1 (.slice (some ⟨g, 0, none⟩) n c) n (pixi f n)
theorem OwnI.at_ {w : World} {B g n c : Nat} {f : Nat → Int} (h : OwnI w B g n c f) (i : Nat) (hi : i < n) : w.cell? ⟨g, i, none⟩ = some (.int .i64 (f i)) := by
  rw [World.ownsRow.cellAt h i (by omega)]; exact pixi_at f n i hi
theorem OwnI.lt {w : World} {B g n c : Nat} {f : Nat → Int} (h : OwnI w B g n c f) : B ≤ g ∧ g < w.heap.size := World.ownsRow.lt h g rfl
theorem OwnI.keep {w w' : World} {B g n c : Nat} {f : Nat → Int} (h : OwnI w B g n c f) (hk : w'.heap[g]? = w.heap[g]?) : OwnI w' B g n c f := by
  refine ⟨h.1, ?_⟩
  rcases h.2 with h | ⟨g', cap', cur, h1, h2, h3, h4⟩
  · exact .inl h
  · have e : g' = g := by injection h1 with h1 _ _; injection h1 with h1; injection h1 with h1; exact h1.symm
    subst e
    exact .inr ⟨g', cap', cur, h1, h2, hk.trans h3, h4⟩
theorem OwnI.mono {w : World} {B B' g n c : Nat} {f : Nat → Int} (h : OwnI w B g n c f) (hB : B' ≤ B) : OwnI w B' g n c f := by
  refine ⟨h.1, ?_⟩
  rcases h.2 with h | ⟨g', cap', cur, h1, h2, h3⟩
  · exact .inl h
  · exact .inr ⟨g', cap', cur, h1, Nat.le_trans hB h2, h3⟩

/-- Nothing that was there has turned but block b. -/
structure Cnt (b : Nat) (w w' : World) : Prop where
  os : w'.os = w.os
  tape : w'.tape = w.tape
  output : w'.output = w.output
  size : w.heap.size ≤ w'.heap.size
  block : ∀ k, k < w.heap.size → k ≠ b → w'.heap[k]? = w.heap[k]?
theorem Cnt.refl (b : Nat) (w : World) : Cnt b w w := ⟨rfl, rfl, rfl, Nat.le_refl _, fun _ _ _ => rfl⟩
theorem Cnt.trans {b : Nat} {x y z : World} (h : Cnt b x y) (k : Cnt b y z) : Cnt b x z :=
  ⟨k.os.trans h.os, k.tape.trans h.tape, k.output.trans h.output, Nat.le_trans h.size k.size, fun i hi hne => (k.block i (Nat.lt_of_lt_of_le hi h.size) hne).trans (h.block i hi hne)⟩
theorem Cnt.of_below {b : Nat} {w w' : World} (h : Below w.heap.size w w') : Cnt b w w' := ⟨h.os, h.tape, h.output, h.size, fun k hk _ => h.block k hk⟩
theorem Cnt.set (b : Nat) (w : World) (u : Value) : Cnt b w (w.setCell ⟨b, 0, none⟩ u) :=
  ⟨rfl, rfl, rfl, by simp [World.setCell], fun k _ hk => Below.heap_setCell _ _ _ _ hk⟩
theorem Cnt.drew {b : Nat} {w w' : World} (h : Cnt b w w') : Cnt b w w'.drew := ⟨h.os, h.tape, h.output, h.size, h.block⟩
theorem Cnt.cells {b : Nat} {w w' : World} (h : Cnt b w w') : ∀ k o, k < w.heap.size → ¬ k = b → w'.cell? ⟨k, o, none⟩ = w.cell? ⟨k, o, none⟩ := fun k o hk hne => World.cell?_of_block (h.block k hk hne)
theorem Cnt.frozens {b : Nat} {w w' : World} (h : Cnt b w w') : ∀ k o, k < w.heap.size → ¬ k = b → w'.frozen? ⟨k, o, none⟩ = w.frozen? ⟨k, o, none⟩ := fun k o hk hne => World.frozen?_of_block (h.block k hk hne)
theorem Cnt.below {b B : Nat} {w0 w w' : World} (h : Below B w0 w) (hc : Cnt b w w') (hB : B ≤ w.heap.size) (hb : B ≤ b) : Below B w0 w' :=
  ⟨hc.os.trans h.os, hc.tape.trans h.tape, hc.output.trans h.output, Nat.le_trans h.size hc.size, fun k hk => (hc.block k (by omega) (by omega)).trans (h.block k hk)⟩
/-- The counter. -/
def Num (w : World) (b : Nat) (k : Int) : Prop := w.cell? ⟨b, 0, none⟩ = some (.int .i64 k) ∧ w.frozen? ⟨b, 0, none⟩ = false
theorem Num.lt {w : World} {b : Nat} {k : Int} (h : Num w b k) : b < w.heap.size := cell_old h.1
theorem Num.below {w w' : World} {b : Nat} {k : Int} (h : Num w b k) (hb : Below w.heap.size w w') : Num w' b k :=
  ⟨(hb.cell (p := ⟨b, 0, none⟩) h.lt).trans h.1, (hb.frozen (p := ⟨b, 0, none⟩) h.lt).trans h.2⟩
theorem Num.set {w : World} {b : Nat} {k : Int} (h : Num w b k) (k' : Int) : Num (w.setCell ⟨b, 0, none⟩ (.int .i64 k')) b k' :=
  ⟨World.cell?_setCell_same' _ _ _ (by rw [h.1]; rfl), by rw [World.frozen?_setCell]; exact h.2⟩

theorem inc_any (b : Nat) (k v : Int) (w : World) (h : Num w b k) (hk : 0 ≤ k ∧ k ≤ 2000000) (hv : 0 ≤ v ∧ v ≤ 255) :
    Calls Try.prog 30 #[.int .u8 v, .pointer (some ⟨b, 0, none⟩)] w fun e w' => e = .returned (.int .i64 (1000 * (k + 1) + v)) ∧ w' = w.setCell ⟨b, 0, none⟩ (.int .i64 (k + 1)) := by
  obtain ⟨h1, h2⟩ := h
  go_enter Try.func30, Try.ntmps30
  go_wp2
  go_ret
  exact ⟨rfl, rfl⟩

/-- What the function that Map hands to build does at its k-th call: the pixel's number and value; the counter has one more. -/
def Counts (g : Nat) (cb : Array Value) (W H b : Nat) (f : Nat → Int) (w : World) : Prop :=
  ∀ (W' : World) (x y k : Nat), Cnt b w W' → Num W' b k → k ≤ 1048576 → x < W → y < H →
    Calls Try.prog g (#[.int .i64 x, .int .i64 y] ++ cb) W' fun e W'' => e = .returned (.int .i64 (1000 * ((k : Int) + 1) + f (y * W + x))) ∧ Cnt b W' W'' ∧ Num W'' b ((k : Int) + 1)

set_option maxHeartbeats 1000000 in
theorem count_gives (W H : Nat) (g n c bg bf b : Nat) (f : Nat → Int) (w : World) (hp : Px w g 0 n f) (hr : ∀ i, i < n → 0 ≤ f i ∧ f i ≤ 255) (hb : Boxed3 w bg (.int .i64 W) (.int .i64 H) (.slice (some ⟨g, 0, none⟩) n c))
    (hfc : w.cell? ⟨bf, 0, none⟩ = some (.func (.func 30) #[] #[.pointer (some ⟨b, 0, none⟩)])) (hW : 1 ≤ W ∧ W ≤ 1024) (hH : 1 ≤ H ∧ H ≤ 1024) (hn : n = W * H) (hg : g < w.heap.size) (hbl : bg < w.heap.size) (hbf : bf < w.heap.size) (n1 : g ≠ b) (n2 : bg ≠ b) (n3 : bf ≠ b) :
    Counts 49 #[.pointer (some ⟨bf, 0, none⟩), .pointer (some ⟨bg, 0, none⟩)] W H b f w := by
  intro w1 x y k hbw hnum hk hx hy
  obtain ⟨k0, k1, k2⟩ := hb
  have k0' : w1.cell? ⟨bg, 0, none⟩ = some (.int .i64 W) := (hbw.cells _ _ hbl n2).trans k0
  have k1' : w1.cell? ⟨bg, 1, none⟩ = some (.int .i64 H) := (hbw.cells _ _ hbl n2).trans k1
  have k2' : w1.cell? ⟨bg, 2, none⟩ = some (.slice (some ⟨g, 0, none⟩) n c) := (hbw.cells _ _ hbl n2).trans k2
  have kf' : w1.cell? ⟨bf, 0, none⟩ = some (.func (.func 30) #[] #[.pointer (some ⟨b, 0, none⟩)]) := (hbw.cells _ _ hbf n3).trans hfc
  have hp1 : Px w1 g 0 n f := fun i hi => (hbw.cells _ _ hg n1).trans (hp i hi)
  have HP := hid hp1
  have hg1 : g < w1.heap.size := Nat.lt_of_lt_of_le hg hbw.size
  have hb1 : bg < w1.heap.size := Nat.lt_of_lt_of_le hbl hbw.size
  have hf1 : bf < w1.heap.size := Nat.lt_of_lt_of_le hbf hbw.size
  have h2 : ((y * W : Nat) : Int) = (y : Int) * W := Int.natCast_mul _ _
  have h1 : y * W + W ≤ n := by rw [hn, ← Nat.succ_mul, Nat.mul_comm W H]; exact Nat.mul_le_mul_right W (by omega)
  have hlin : (y : Int) * W + x < (n : Int) := by omega
  have hix : ((y : Int) * W + x).toNat = y * W + x := by omega
  have hrv := hr (y * W + x) (by omega)
  have hcall : ∀ W', Below w1.heap.size w1 W' → Calls Try.prog 35 #[grid W H (.slice (some ⟨g, 0, none⟩) n c), .int .i64 x, .int .i64 y] W' fun e w' => e = .returned (.int .u8 (f (y * W + x))) ∧ Below W'.heap.size W' w' := by
    intro W' hW'
    have := pixel_any W H x y g n c f W' (HP.out.below hW' hg1) (by omega) (by omega) (by omega) hlin (Nat.lt_of_lt_of_le hg1 hW'.size)
    rw [hix] at this
    exact this
  have HC := Lib.hid hcall
  have HNUM := hid hnum
  have eg : ∀ args w, (callFunc 30 args).run Try.prog w = .ok (.enter 30 args) w := enters_of Try.func30 (by kernel_rfl) rfl
  show Calls Try.prog 49 _ w1 fun e W'' => e = .returned (.int .i64 (1000 * ((k : Int) + 1) + f (y * W + x))) ∧ Cnt b w1 W'' ∧ Num W'' b ((k : Int) + 1)
  generalize f (y * W + x) = v at HC hrv ⊢
  have n2' : ¬ bg = b := n2
  have n3' : ¬ bf = b := n3
  clear hp hr k0 k1 k2 hfc hbw hix hcall hn hlin h2 h1 HP hnum hp1
  go_enter Try.func49, Try.ntmps49
  go_wp2_with fail
  go_region_held3 (fun w' => w'.cell? ⟨bg, 0, none⟩ = some (.int .i64 W) ∧ w'.cell? ⟨bg, 1, none⟩ = some (.int .i64 H) ∧ w'.cell? ⟨bg, 2, none⟩ = some (.slice (some ⟨g, 0, none⟩) n c) ∧ w'.cell? ⟨bf, 0, none⟩ = some (.func (.func 30) #[] #[.pointer (some ⟨b, 0, none⟩)])) (simp [go_sem, *])
    ((first
      | (go_at_call 35; refine (HC.out _ ?_).mono ?_; (repeat first | exact Below.refl _ _ | apply Below.drew | apply below_alloc); rintro e w2 ⟨rfl, hb2⟩; have HB2 := hid (below_next (by repeat first | exact Below.refl _ _ | apply Below.drew | apply below_alloc : Below w1.heap.size w1 _) hb2); obtain ⟨hc2, hf2⟩ := bcell HB2.out)
      | (go_at_call 30; refine (inc_any b k v _ ?_ (by omega) hrv).mono ?_; (exact HNUM.out.below HB2.out); rintro e w3 ⟨rfl, hw3⟩; have hc3 : ∀ q o, ¬ q = b → w3.cell? ⟨q, o, none⟩ = w2.cell? ⟨q, o, none⟩ := (by rw [hw3]; exact fun q o hq => World.cell?_of_block (Below.heap_setCell _ _ _ _ hq)); have HW3 := hid hw3; clear hw3)))
  go_wp2
  go_ret
  refine ⟨rfl, ?_, ?_⟩
  · rw [HW3.out]; exact (Cnt.of_below HB2.out).trans (Cnt.set _ _ _)
  · rw [HW3.out]; exact Num.set (HNUM.out.below HB2.out) _

theorem info3 : (Try.prog.info? 3).map (fun i => (i.zero, i.size, i.bytes)) = some (some (.int .i64 0), 1, 8) := by kernel_rfl

/-- A new raster of numbers; the counter has counted. -/
def NewCount (W H : Int) (n b : Nat) (f : Nat → Int) (w : World) (e : Ending) (w' : World) : Prop :=
  ∃ g c, e = .returned (grid W H (.slice (some ⟨g, 0, none⟩) n c)) ∧ OwnI w' w.heap.size g n c f ∧ Cnt b w w' ∧ Num w' b n

theorem Num.keep {w w' : World} {b : Nat} {k : Int} (h : Num w b k) (hk : w'.heap[b]? = w.heap[b]?) : Num w' b k :=
  ⟨(World.cell?_of_block (a := ⟨b, 0, none⟩) hk).trans h.1, (World.frozen?_of_block (a := ⟨b, 0, none⟩) hk).trans h.2⟩
theorem Cnt.alloc {b : Nat} {w0 w : World} (h : Cnt b w0 w) (o : Obj) : Cnt b w0 (w.alloc o) :=
  h.trans ⟨rfl, rfl, rfl, by simp, fun k hk _ => Below.heap_alloc _ _ _ hk⟩
theorem Cnt.own {b g n c : Nat} {w0 w w1 : World} (h : Cnt b w0 w) (hg : w.grownBy w1 (Value.slice (some ⟨g, 0, none⟩) n c).ownBlock) (hge : w0.heap.size ≤ g) : Cnt b w0 w1 :=
  ⟨hg.os.trans h.os, hg.tape.trans h.tape, hg.output.trans h.output, Nat.le_trans h.size hg.size, fun k hk hne => (hg.block k (Nat.lt_of_lt_of_le hk h.size) (fun e => by
    injection e with e
    have e' : k = g := e
    omega)).trans (h.block k hk hne)⟩
theorem Cnt.setNew {b : Nat} {w0 w : World} (h : Cnt b w0 w) {p : Addr} (hp : w0.heap.size ≤ p.block) (u : Value) : Cnt b w0 (w.setCell p u) :=
  ⟨h.os, h.tape, h.output, by simpa [World.setCell] using h.size, fun k hk hne => (Below.heap_setCell _ _ _ _ (by omega)).trans (h.block k hk hne)⟩
theorem Num.own {w w1 : World} {b g n c : Nat} {k : Int} (h : Num w b k) (hg : w.grownBy w1 (Value.slice (some ⟨g, 0, none⟩) n c).ownBlock) (hne : g ≠ b) : Num w1 b k :=
  h.keep (hg.block b h.lt (fun e => by injection e with e; exact hne e.symm))
theorem box3c {w wr : World} {x y z : Value} {t : TypeId} {b : Nat} (hb : Cnt b (w.alloc (.cells #[x, y, z] t)) wr) (hne : w.heap.size ≠ b) :
    wr.cell? ⟨w.heap.size, 0, none⟩ = some x ∧ wr.cell? ⟨w.heap.size, 1, none⟩ = some y ∧ wr.cell? ⟨w.heap.size, 2, none⟩ = some z ∧ ∀ i, wr.frozen? ⟨w.heap.size, i, none⟩ = false :=
  ⟨(hb.cells _ _ (by simp) hne).trans (by simp), (hb.cells _ _ (by simp) hne).trans (by simp), (hb.cells _ _ (by simp) hne).trans (by simp), fun i => (hb.frozens _ _ (by simp) hne).trans (by simp)⟩

set_option maxHeartbeats 1000000 in
theorem buildc_any (g : Nat) (cb : Array Value) (W H b : Nat) (f : Nat → Int) (w : World) (eg0 : Enters Try.prog g)
    (hG : Counts g cb W H b f w) (hb : Num w b 0) (hW : 1 ≤ W ∧ W ≤ 1024) (hH : 1 ≤ H ∧ H ≤ 1024) :
    Calls Try.prog 48 #[.int .i64 W, .int .i64 H, .func (.func g) #[] cb] w (NewCount W H (W * H) b (fun i : Nat => 1000 * ((i : Int) + 1) + f i) w) := by
  obtain ⟨i0, hi, hz0, hz1, hz2⟩ := info_parts info3
  have HG := hid hG
  have eg : ∀ args w, (callFunc g args).run Try.prog w = .ok (.enter g args) w := eg0
  have hbl := hb.lt
  have hbne : w.heap.size ≠ b := by omega
  have HNU := hid hb
  clear eg0
  clear hG hb
  obtain ⟨m1, m2⟩ := mul_bds (show (0 : Int) ≤ W by omega) (show (W : Int) ≤ 1024 by omega) (show (0 : Int) ≤ H by omega) (show (H : Int) ≤ 1024 by omega)
  obtain ⟨N, hN⟩ : ∃ N : Nat, N = W * H := ⟨_, rfl⟩
  have hNz : (N : Int) = W * H := by rw [hN, Int.natCast_mul]
  have HN := hid hN
  have HZ := hid hNz
  rw [← hN]
  have hN2 : N ≤ 1048576 := by omega
  obtain ⟨Q, hQ⟩ : ∃ Q : Nat → Int, Q = fun i : Nat => 1000 * ((i : Int) + 1) + f i := ⟨_, rfl⟩
  rw [← hQ]
  have HQ := hid hQ
  clear hN hNz hQ
  go_enter Try.func48, Try.ntmps48
  go_wp2_with
    (at_make
     refine wpList_make_own _ rfl _ _ 49 rfl (w.heap.size + 1) 3 i0 (.int .i64 0) 1 Try.underlying49 hi hz0 hz1 .i64 .i64 _ N rfl rfl HZ.out.symm (by rw [hz2]; omega) (by unfold maxLen; omega) (by simp) ?_
     intro w0 hown0 hgrow0)
  have hb0 : Cnt b (w.alloc (.cells #[.int .i64 0, .int .i64 0, .slice none 0 0] 51)) w0 := ⟨hgrow0.os, hgrow0.tape, hgrow0.output, hgrow0.size, fun k hk _ => hgrow0.block k hk (fun e => by cases e)⟩
  have O0 : OwnI w0 (w.heap.size + 1) (w.heap.size + 1) 0 N Q := by unfold OwnI; rw [World.size_alloc] at hown0; exact hown0
  have hn0 : Num w0 b (0 : Nat) := (HNU.out.below (below_alloc (Below.refl _ _) _)).keep (hgrow0.block b (by simp; omega) (fun e => by cases e))
  have HB0 := hid hb0
  have HO0 := hid O0
  have HN0 := hid hn0
  clear hb0 O0 hown0 hgrow0 hn0
  go_loopw [7, 8, 15] (fun s7 _ s15 wr => ∃ j n g1 c1 : Nat, j ≤ H ∧ n ≤ N ∧ Hid (n = j * W) ∧ s15 = .int .i64 j ∧ s7 = .slice (some ⟨g1, 0, none⟩) n c1 ∧ Hid (OwnI wr (w.heap.size + 1) g1 n c1 Q) ∧ Hid (Cnt b (w.alloc (.cells #[.int .i64 0, .int .i64 0, .slice none 0 0] 51)) wr) ∧ Hid (Num wr b n)) (fun _ _ s15 _ => H - (intOf s15).toNat)
  case atStart => exact ⟨0, 0, _, _, Nat.zero_le _, Nat.zero_le _, hid (by simp), rfl, rfl, HO0, HB0, HN0⟩
  case round =>
    clear HO0 HB0 HN0
    obtain ⟨j, n, g1, c1, hj, hn, Hn, rfl, rfl, HO, HB, HM⟩ := hrel
    by_cases hlt : j < H
    · have hle : n + W ≤ N := by
        rw [Hn.out, HN.out, ← Nat.succ_mul, Nat.mul_comm W H]; exact Nat.mul_le_mul_right W hlt
      obtain ⟨wo, rfl⟩ : ∃ wo : World, wo = wr := ⟨_, rfl⟩
      go_wp2
      go_loopw [7, 9, 19] (fun s7 _ s19 wr => ∃ x g1 c1 : Nat, x ≤ W ∧ s19 = .int .i64 x ∧ s7 = .slice (some ⟨g1, 0, none⟩) (n + x) c1 ∧ Hid (OwnI wr (w.heap.size + 1) g1 (n + x) c1 Q) ∧ Hid (Cnt b (w.alloc (.cells #[.int .i64 0, .int .i64 0, .slice none 0 0] 51)) wr) ∧ Hid (Num wr b (n + x : Nat))) (fun _ _ s19 _ => W - (intOf s19).toNat)
      case atStart => exact ⟨0, g1, c1, Nat.zero_le _, rfl, rfl, HO, HB, HM⟩
      case round =>
        clear HO HB HM
        obtain ⟨x, g2, c2, hx, rfl, rfl, HO, HB, HM⟩ := hrel
        by_cases hlx : x < W
        · have hsz : w.heap.size + 1 ≤ wr.heap.size := by have := HB.out.size; rw [World.size_alloc] at this; exact this
          have hcall0 := HG.out wr x j (n + x) ((Cnt.of_below (below_alloc (Below.refl _ _) _)).trans HB.out) HM.out (by omega) hlx hlt
          obtain ⟨v, hv⟩ : ∃ v, v = Q (n + x) := ⟨_, rfl⟩
          have hcall : Calls Try.prog g (#[.int .i64 x, .int .i64 j] ++ cb) wr fun e W'' => e = .returned (.int .i64 v) ∧ Cnt b wr W'' ∧ Num W'' b ((n + x : Nat) + 1) := by
            rw [hv, HQ.out]
            have e1 : j * W + x = n + x := by rw [Hn.out]
            rw [e1] at hcall0
            exact hcall0
          have HV := hid hv
          have hg2b : g2 ≠ b := by have := HO.out.lt.1; omega
          have HCALL := Lib.hid hcall
          clear hcall hcall0 hv
          go_wp2_with (first
            | (at_builtin
               refine wpList_append_lies _ rfl _ _ 49 rfl (w.heap.size + 1) 3 i0 (.int .i64 0) 1 8 Try.underlying49 hi hz0 hz1 hz2 rfl (by decide) (.slice (some ⟨g2, 0, none⟩) (n + x) c2) (n + x) (pixi Q (n + x)) rfl
                 (World.ownsRow.alloc HO1.out _) ⟨w1.heap.size, 0, none⟩ 1 1 [.int .i64 v] rfl rfl (cell_one_new _ _ _) (by simp [Value.oneCell']) (by omega) (by unfold maxLen; omega) (by omega) (by simp; omega) (w1.heap.size + 1) (by simp) ?_
               intro g3 c3 w3 hown3 hgrow3 hat3 hlt3)
            | (go_at_fn g; refine HCALL.out.mono ?_; rintro e w1 ⟨rfl, hb1, hm1⟩; have HO1 := hid (HO.out.keep (hb1.block g2 HO.out.lt.2 hg2b)); have HB1 := hid (HB.out.trans hb1); have HM1 := hid hm1; have hsz1 : w.heap.size + 1 ≤ w1.heap.size := Nat.le_trans hsz hb1.size; clear hb1 hm1))
          rw [HV.out, ← pixi_snoc] at hown3
          have hO3 : OwnI w3 (w.heap.size + 1) g3 (n + (x + 1)) c3 Q := hown3
          have HO3 := hid hO3
          have HB3 := hid ((HB1.out.alloc _).own hgrow3 (by simp; exact HO1.out.lt.1))
          have hm3 := (HM1.out.below (below_alloc (Below.refl _ _) _)).own hgrow3 hg2b
          have HM3 : Hid (Num w3 b (n + (x + 1) : Nat)) := hid hm3
          clear hown3 hO3 hgrow3 hat3 hm3
          go_wp2
          go_roundw
          case rel => exact ⟨x + 1, g3, c3, by omega, by go_num, rfl, HO3, HB3, HM3⟩
          case measure => simp [intOf]; omega
        · obtain rfl : x = W := by omega
          go_wp2
          go_roundw
          case rel => exact ⟨j + 1, n + x, g2, c2, by omega, hle, hid (by rw [Hn.out, Nat.succ_mul]), by go_num, rfl, HO, HB, HM⟩
          case measure => simp [intOf]; omega
    · obtain ⟨c0, c1', c2, fz⟩ := box3c HB.out hbne
      obtain rfl : j = H := by omega
      obtain rfl : n = N := by rw [Hn.out, HN.out, Nat.mul_comm]
      go_wp2
      have hgl := HO.out.lt.1
      refine bodyPost_ret (v := grid W j (.slice (some ⟨g1, 0, none⟩) n c1)) (by simp [results, Try.results48, go_sem, *]) rfl ⟨g1, c1, rfl, ?_, ?_, ?_⟩
      · exact (((HO.out.keep (Below.heap_setCell _ ⟨w.heap.size, 0, none⟩ _ _ (by simp; omega))).keep (Below.heap_setCell _ ⟨w.heap.size, 1, none⟩ _ _ (by simp; omega))).keep (Below.heap_setCell _ ⟨w.heap.size, 2, none⟩ _ _ (by simp; omega))).mono (by omega)
      · have h0 : Cnt b w wr := (Cnt.of_below (below_alloc (Below.refl _ _) _)).trans HB.out
        exact ((h0.setNew (p := ⟨w.heap.size, 0, none⟩) (Nat.le_refl _) _).setNew (p := ⟨w.heap.size, 1, none⟩) (Nat.le_refl _) _).setNew (p := ⟨w.heap.size, 2, none⟩) (Nat.le_refl _) _
      · exact ((HM.out.keep (Below.heap_setCell _ ⟨w.heap.size, 0, none⟩ _ _ (by simp; omega))).keep (Below.heap_setCell _ ⟨w.heap.size, 1, none⟩ _ _ (by simp; omega))).keep (Below.heap_setCell _ ⟨w.heap.size, 2, none⟩ _ _ (by simp; omega))

theorem func_not_nil54 (gf : Nat) (cf : Array Value) (w : World) : (binOp .eql 54 (.func (.func gf) #[] cf) .nilFunc).run Try.prog w = .ok (.bool false) w := by
  kernel_rfl

/-- A raster of numbers, and no error; the counter has counted. -/
def OkCount (W H : Int) (n b : Nat) (f : Nat → Int) (w : World) (e : Ending) (w' : World) : Prop :=
  ∃ g c, e = .returned (.tuple #[grid W H (.slice (some ⟨g, 0, none⟩) n c), .int .i64 0]) ∧ OwnI w' w.heap.size g n c f ∧ Cnt b w w' ∧ Num w' b n

set_option maxHeartbeats 1000000 in
theorem mapc_any (W H : Nat) (g n c b : Nat) (f : Nat → Int) (w : World) (hp : Px w g 0 n f) (hr : ∀ i, i < n → 0 ≤ f i ∧ f i ≤ 255) (hnum : Num w b 0)
    (hW : 1 ≤ W ∧ W ≤ 1024) (hH : 1 ≤ H ∧ H ≤ 1024) (hn : n = W * H) (hg : g < w.heap.size) (hgb : g ≠ b) :
    Calls Try.prog 29 #[grid W H (.slice (some ⟨g, 0, none⟩) n c), .func (.func 30) #[] #[.pointer (some ⟨b, 0, none⟩)]] w (OkCount W H n b (fun i : Nat => 1000 * ((i : Int) + 1) + f i) w) := by
  have HP := hid hp
  have HN := hid hn
  have HR := hid hr
  have HNUM := hid hnum
  have hbl := hnum.lt
  have hck : ∀ w, Calls Try.prog 25 #[grid W H (.slice (some ⟨g, 0, none⟩) n c)] w fun e w' => e = .returned (.int .i64 0) ∧ Below w.heap.size w w' := fun w => check_ok W H _ n c w (by omega) (by omega) (by rw [hn, Int.natCast_mul])
  have HCK := Lib.hid hck
  clear hp hn hck hr hnum
  have hnf := func_not_nil54 30 #[.pointer (some ⟨b, 0, none⟩)]
  go_enter Try.func29, Try.ntmps29
  go_wp2_with fail
  (with_reducible refine (HCK.out _).mono ?_); rintro e w1 ⟨rfl, hb1⟩
  obtain ⟨hc1, hf1⟩ := bcell hb1
  have HBW := hid (below_next (by repeat first | exact Below.refl _ _ | apply Below.drew | apply below_alloc : Below w.heap.size w _) hb1)
  have hs1 : w.heap.size + 3 ≤ w1.heap.size := by have := hb1.size; simp at this; exact this
  go_wp2_with fail
  (with_reducible refine (buildc_any 49 _ W H b f _ (enters_of Try.func49 (by kernel_rfl) rfl) (count_gives W H g n c w.heap.size (w.heap.size + 1) b f _ ?_ HR.out ⟨?_, ?_, ?_⟩ ?_ hW hH HN.out ?_ ?_ ?_ hgb ?_ ?_) ?_ hW hH).mono ?_)
  · exact HP.out.below HBW.out hg
  · simp [go_sem, hc1]
  · simp [go_sem, hc1]
  · simp [go_sem, hc1]
  · simp [go_sem, hc1]
  · omega
  · omega
  · omega
  · omega
  · omega
  · exact HNUM.out.below HBW.out
  rintro e w3 ⟨g3, c3, rfl, hown, hcnt, hnum3⟩
  have q0 := (hcnt.cells (w.heap.size + 2) 0 (by omega) (by omega)).trans (hc1 _ _ (by simp))
  have q1 := (hcnt.cells (w.heap.size + 2) 1 (by omega) (by omega)).trans (hc1 _ _ (by simp))
  have q2 := (hcnt.cells (w.heap.size + 2) 2 (by omega) (by omega)).trans (hc1 _ _ (by simp))
  have qf : ∀ i, w3.frozen? ⟨w.heap.size + 2, i, none⟩ = false := fun i => (hcnt.frozens (w.heap.size + 2) i (by omega) (by omega)).trans ((hf1 _ _ (by simp)).trans (by simp [go_sem]))
  simp [go_sem] at q0 q1 q2
  have HO := hid hown
  have HC := hid hcnt
  have HM := hid hnum3
  clear hc1 hf1 hown hcnt hnum3 hb1
  go_wp2
  have hgl := HO.out.lt.1
  refine bodyPost_ret (v := .tuple #[grid W H (.slice (some ⟨g3, 0, none⟩) (W * H) c3), .int .i64 0]) (by simp [results, Try.results29, go_sem, *]) rfl ⟨g3, c3, by rw [HN.out], ?_, ?_, ?_⟩
  · rw [HN.out]
    exact (((HO.out.keep (Below.heap_setCell _ ⟨w.heap.size + 2, 0, none⟩ _ _ (by simp; omega))).keep (Below.heap_setCell _ ⟨w.heap.size + 2, 1, none⟩ _ _ (by simp; omega))).keep (Below.heap_setCell _ ⟨w.heap.size + 2, 2, none⟩ _ _ (by simp; omega))).mono (by omega)
  · have h0 : Cnt b w w3 := (Cnt.of_below HBW.out).trans HC.out
    exact ((h0.setNew (p := ⟨w.heap.size + 2, 0, none⟩) (Nat.le_add_right _ _) _).setNew (p := ⟨w.heap.size + 2, 1, none⟩) (Nat.le_add_right _ _) _).setNew (p := ⟨w.heap.size + 2, 2, none⟩) (Nat.le_add_right _ _) _
  · rw [HN.out]
    exact ((HM.out.keep (Below.heap_setCell _ ⟨w.heap.size + 2, 0, none⟩ _ _ (by simp; omega))).keep (Below.heap_setCell _ ⟨w.heap.size + 2, 1, none⟩ _ _ (by simp; omega))).keep (Below.heap_setCell _ ⟨w.heap.size + 2, 2, none⟩ _ _ (by simp; omega))

end Go.Proofs.Ytdjjijkdalpggaa
