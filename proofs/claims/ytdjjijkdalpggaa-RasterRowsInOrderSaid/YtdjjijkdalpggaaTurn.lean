/- What Turn returns: the raster turned. -/
import Derived.Test.YtdjjijkdalpggaaBuild
namespace Go.Proofs.Ytdjjijkdalpggaa
open Go Go.RowKit
set_option linter.unusedVariables false

/-- A raster that lies in a variable. -/
abbrev Boxed3 (w : World) (b : Nat) (x y z : Value) : Prop := w.cell? ⟨b, 0, none⟩ = some x ∧ w.cell? ⟨b, 1, none⟩ = some y ∧ w.cell? ⟨b, 2, none⟩ = some z

theorem turn1_gives (W H : Nat) (g n c b b8 : Nat) (f : Nat → Int) (w : World) (hp : Px w g 0 n f) (hb : Boxed3 w b (.int .i64 W) (.int .i64 H) (.slice (some ⟨g, 0, none⟩) n c))
    (h8 : w.cell? ⟨b8, 0, none⟩ = some (.int .i64 (H - 1))) (hW : 1 ≤ W ∧ W ≤ 1024) (hH : 1 ≤ H ∧ H ≤ 1024) (hn : n = W * H) (hg : g < w.heap.size) (hbl : b < w.heap.size) (h8l : b8 < w.heap.size) :
    Gives 34 #[.pointer (some ⟨b, 0, none⟩), .pointer (some ⟨b8, 0, none⟩)] H W (fun x y => f ((H - 1 - x) * W + y)) w := by
  intro w1 x y hbw hx hy
  have HP := hid (hp.below hbw hg)
  obtain ⟨k0, k1, k2⟩ := hb
  have k0' : w1.cell? ⟨b, 0, none⟩ = some (.int .i64 W) := (hbw.cell (p := ⟨b, 0, none⟩) hbl).trans k0
  have k1' : w1.cell? ⟨b, 1, none⟩ = some (.int .i64 H) := (hbw.cell (p := ⟨b, 1, none⟩) hbl).trans k1
  have k2' : w1.cell? ⟨b, 2, none⟩ = some (.slice (some ⟨g, 0, none⟩) n c) := (hbw.cell (p := ⟨b, 2, none⟩) hbl).trans k2
  have k8' : w1.cell? ⟨b8, 0, none⟩ = some (.int .i64 (H - 1)) := (hbw.cell (p := ⟨b8, 0, none⟩) h8l).trans h8
  have hg1 : g < w1.heap.size := Nat.lt_of_lt_of_le hg hbw.size
  have hlin : ((H : Int) - 1 - x) * W + y < (n : Int) := by
    have h1 : (H - 1 - x) * W + W ≤ n := by rw [hn, ← Nat.succ_mul, Nat.mul_comm W H]; exact Nat.mul_le_mul_right W (by omega)
    have h2 : (((H - 1 - x : Nat) * W : Nat) : Int) = ((H : Int) - 1 - x) * W := by rw [Int.natCast_mul]; congr 1; omega
    omega
  have hix : ((((H : Int) - 1 - x) * W + y).toNat) = (H - 1 - x) * W + y := by
    have h2 : (((H - 1 - x : Nat) * W : Nat) : Int) = ((H : Int) - 1 - x) * W := by rw [Int.natCast_mul]; congr 1; omega
    omega
  have HIX := hid hix
  have hcall := pixel_any W H y ((H : Int) - 1 - x) g n c f w1 HP.out (by omega) (by omega) (by omega) hlin hg1
  have HC := Lib.hid hcall
  clear hp k0 k1 k2 h8 hix hcall hn hlin
  go_enter Try.func34, Try.ntmps34
  go_wp2_with fail
  (with_reducible refine HC.out.mono ?_); rintro e w2 ⟨rfl, hb2⟩
  go_wp2
  go_ret
  exact ⟨by rw [← HIX.out]; rfl, hb2⟩

theorem turn2_gives (W H : Nat) (g n c b b7 b8 : Nat) (f : Nat → Int) (w : World) (hp : Px w g 0 n f) (hb : Boxed3 w b (.int .i64 W) (.int .i64 H) (.slice (some ⟨g, 0, none⟩) n c))
    (h7 : w.cell? ⟨b7, 0, none⟩ = some (.int .i64 (W - 1))) (h8 : w.cell? ⟨b8, 0, none⟩ = some (.int .i64 (H - 1))) (hW : 1 ≤ W ∧ W ≤ 1024) (hH : 1 ≤ H ∧ H ≤ 1024) (hn : n = W * H) (hg : g < w.heap.size) (hbl : b < w.heap.size) (h7l : b7 < w.heap.size) (h8l : b8 < w.heap.size) :
    Gives 36 #[.pointer (some ⟨b, 0, none⟩), .pointer (some ⟨b7, 0, none⟩), .pointer (some ⟨b8, 0, none⟩)] W H (fun x y => f ((H - 1 - y) * W + (W - 1 - x))) w := by
  intro w1 x y hbw hx hy
  have HP := hid (hp.below hbw hg)
  obtain ⟨k0, k1, k2⟩ := hb
  have k0' : w1.cell? ⟨b, 0, none⟩ = some (.int .i64 W) := (hbw.cell (p := ⟨b, 0, none⟩) hbl).trans k0
  have k1' : w1.cell? ⟨b, 1, none⟩ = some (.int .i64 H) := (hbw.cell (p := ⟨b, 1, none⟩) hbl).trans k1
  have k2' : w1.cell? ⟨b, 2, none⟩ = some (.slice (some ⟨g, 0, none⟩) n c) := (hbw.cell (p := ⟨b, 2, none⟩) hbl).trans k2
  have k7' : w1.cell? ⟨b7, 0, none⟩ = some (.int .i64 (W - 1)) := (hbw.cell (p := ⟨b7, 0, none⟩) h7l).trans h7
  have k8' : w1.cell? ⟨b8, 0, none⟩ = some (.int .i64 (H - 1)) := (hbw.cell (p := ⟨b8, 0, none⟩) h8l).trans h8
  have hg1 : g < w1.heap.size := Nat.lt_of_lt_of_le hg hbw.size
  have h2 : (((H - 1 - y : Nat) * W : Nat) : Int) = ((H : Int) - 1 - y) * W := by rw [Int.natCast_mul]; congr 1; omega
  have hlin : ((H : Int) - 1 - y) * W + ((W : Int) - 1 - x) < (n : Int) := by
    have h1 : (H - 1 - y) * W + W ≤ n := by rw [hn, ← Nat.succ_mul, Nat.mul_comm W H]; exact Nat.mul_le_mul_right W (by omega)
    omega
  have hix : ((((H : Int) - 1 - y) * W + ((W : Int) - 1 - x)).toNat) = (H - 1 - y) * W + (W - 1 - x) := by omega
  have HIX := hid hix
  have hcall := pixel_any W H ((W : Int) - 1 - x) ((H : Int) - 1 - y) g n c f w1 HP.out (by omega) (by omega) (by omega) hlin hg1
  have HC := Lib.hid hcall
  clear hp k0 k1 k2 h7 h8 hix hcall hn hlin h2
  go_enter Try.func36, Try.ntmps36
  go_wp2_with fail
  (with_reducible refine HC.out.mono ?_); rintro e w2 ⟨rfl, hb2⟩
  go_wp2
  go_ret
  exact ⟨by rw [← HIX.out]; rfl, hb2⟩

theorem turn3_gives (W H : Nat) (g n c b b7 : Nat) (f : Nat → Int) (w : World) (hp : Px w g 0 n f) (hb : Boxed3 w b (.int .i64 W) (.int .i64 H) (.slice (some ⟨g, 0, none⟩) n c))
    (h7 : w.cell? ⟨b7, 0, none⟩ = some (.int .i64 (W - 1))) (hW : 1 ≤ W ∧ W ≤ 1024) (hH : 1 ≤ H ∧ H ≤ 1024) (hn : n = W * H) (hg : g < w.heap.size) (hbl : b < w.heap.size) (h7l : b7 < w.heap.size) :
    Gives 37 #[.pointer (some ⟨b, 0, none⟩), .pointer (some ⟨b7, 0, none⟩)] H W (fun x y => f (x * W + (W - 1 - y))) w := by
  intro w1 x y hbw hx hy
  have HP := hid (hp.below hbw hg)
  obtain ⟨k0, k1, k2⟩ := hb
  have k0' : w1.cell? ⟨b, 0, none⟩ = some (.int .i64 W) := (hbw.cell (p := ⟨b, 0, none⟩) hbl).trans k0
  have k1' : w1.cell? ⟨b, 1, none⟩ = some (.int .i64 H) := (hbw.cell (p := ⟨b, 1, none⟩) hbl).trans k1
  have k2' : w1.cell? ⟨b, 2, none⟩ = some (.slice (some ⟨g, 0, none⟩) n c) := (hbw.cell (p := ⟨b, 2, none⟩) hbl).trans k2
  have k7' : w1.cell? ⟨b7, 0, none⟩ = some (.int .i64 (W - 1)) := (hbw.cell (p := ⟨b7, 0, none⟩) h7l).trans h7
  have hg1 : g < w1.heap.size := Nat.lt_of_lt_of_le hg hbw.size
  have h2 : ((x * W : Nat) : Int) = (x : Int) * W := Int.natCast_mul _ _
  have hlin : (x : Int) * W + ((W : Int) - 1 - y) < (n : Int) := by
    have h1 : x * W + W ≤ n := by rw [hn, ← Nat.succ_mul, Nat.mul_comm W H]; exact Nat.mul_le_mul_right W (by omega)
    omega
  have hix : (((x : Int) * W + ((W : Int) - 1 - y)).toNat) = x * W + (W - 1 - y) := by omega
  have HIX := hid hix
  have hcall := pixel_any W H ((W : Int) - 1 - y) x g n c f w1 HP.out (by omega) (by omega) (by omega) hlin hg1
  have HC := Lib.hid hcall
  clear hp k0 k1 k2 h7 hix hcall hn hlin h2
  go_enter Try.func37, Try.ntmps37
  go_wp2_with fail
  (with_reducible refine HC.out.mono ?_); rintro e w2 ⟨rfl, hb2⟩
  go_wp2
  go_ret
  exact ⟨by rw [← HIX.out]; rfl, hb2⟩

/-- A raster, and no error. -/
def OkGrid (W H : Int) (n : Nat) (f : Nat → Int) (w : World) (e : Ending) (w' : World) : Prop :=
  ∃ g c, e = .returned (.tuple #[grid W H (.slice (some ⟨g, 0, none⟩) n c), .int .i64 0]) ∧ Own w' w.heap.size g n c f ∧ Below w.heap.size w w'

set_option maxHeartbeats 1000000 in
theorem turn1 (W H : Nat) (k : Int) (g n c : Nat) (f : Nat → Int) (w : World) (hp : Px w g 0 n f) (hW : 1 ≤ W ∧ W ≤ 1024) (hH : 1 ≤ H ∧ H ≤ 1024) (hn : n = W * H) (hg : g < w.heap.size) (hk : bits .and .i64 k 3 = 1) :
    Calls Try.prog 15 #[grid W H (.slice (some ⟨g, 0, none⟩) n c), .int .i64 k] w (OkGrid H W (H * W) (flat H fun x y => f ((H - 1 - x) * W + y)) w) := by
  have HP := hid hp
  have HN := hid hn
  have hck : ∀ w, Calls Try.prog 25 #[grid W H (.slice (some ⟨g, 0, none⟩) n c)] w fun e w' => e = .returned (.int .i64 0) ∧ Below w.heap.size w w' := fun w => check_ok W H _ n c w (by omega) (by omega) (by rw [hn, Int.natCast_mul])
  have HCK := Lib.hid hck
  clear hp hn hck
  go_enter Try.func15, Try.ntmps15
  go_wp2_with fail
  (with_reducible refine (HCK.out _).mono ?_); rintro e w1 ⟨rfl, hb1⟩
  obtain ⟨hc1, hf1⟩ := bcell hb1
  go_wp2_with fail
  have HBW := hid ((((Below.refl w.heap.size w).alloc (Nat.le_refl _) _).alloc (by simp) _).trans (hb1.mono (by simp; omega)))
  have hs1 : w.heap.size + 2 ≤ w1.heap.size := by have := hb1.size; simp at this; exact this
  have hl1 : w.heap.size < w1.heap.size := by omega
  go_region_held3 (fun w' => w'.cell? ⟨w.heap.size, 0, none⟩ = some (.int .i64 W) ∧ w'.cell? ⟨w.heap.size, 1, none⟩ = some (.int .i64 H)) (simp [go_sem, World.cell?_alloc_past, *]) (fail)
  all_goals
    go_wp2_with fail
    (with_reducible refine (build_any 34 _ H W (fun x y => f ((H - 1 - x) * W + y)) _ (enters_of Try.func34 (by kernel_rfl) rfl) (turn1_gives W H g n c w.heap.size _ f _ ?_ ⟨?_, ?_, ?_⟩ ?_ hW hH HN.out ?_ ?_ ?_) hH hW).mono ?_)
    · exact HP.out.below (by repeat first | exact HBW.out | apply Below.drew | refine Below.alloc ?_ (by first | omega | (simp; omega)) _) hg
    · simp [go_sem, hl1, hc1]
    · simp [go_sem, hl1, hc1]
    · simp [go_sem, hl1, hc1]
    · simp [go_sem]
    · simp; omega
    · simp; omega
    · simp; try omega
    rintro e w3 ⟨g3, c3, rfl, hown, hb3⟩
    obtain ⟨hc3, hf3⟩ := bcell (hb1.trans (Below.trans (by repeat first | exact Below.refl _ _ | apply Below.drew | refine Below.alloc ?_ (by first | omega | (simp; omega)) _) (hb3.mono (by simp; omega))))
    clear hc1 hf1
    go_wp2
    refine bodyPost_ret (v := .tuple #[grid H W (.slice (some ⟨g3, 0, none⟩) (H * W) c3), .int .i64 0]) (by simp [results, Try.results15, go_sem, *]) rfl ⟨g3, c3, rfl, ?_, ?_⟩
    · exact (hown.far3 (by have := hown.lt.1; simp at this; omega)).mono (by simp; omega)
    · exact below3' HBW.out (Below.trans (by repeat first | exact Below.refl _ _ | apply Below.drew | refine Below.alloc ?_ (by first | omega | (simp; omega)) _) (hb3.mono (by simp; omega))) (Nat.le_refl _) (by omega)

set_option maxHeartbeats 1000000 in
theorem turn2 (W H : Nat) (k : Int) (g n c : Nat) (f : Nat → Int) (w : World) (hp : Px w g 0 n f) (hW : 1 ≤ W ∧ W ≤ 1024) (hH : 1 ≤ H ∧ H ≤ 1024) (hn : n = W * H) (hg : g < w.heap.size) (hk : bits .and .i64 k 3 = 2) :
    Calls Try.prog 15 #[grid W H (.slice (some ⟨g, 0, none⟩) n c), .int .i64 k] w (OkGrid W H (W * H) (flat W fun x y => f ((H - 1 - y) * W + (W - 1 - x))) w) := by
  have HP := hid hp
  have HN := hid hn
  have hck : ∀ w, Calls Try.prog 25 #[grid W H (.slice (some ⟨g, 0, none⟩) n c)] w fun e w' => e = .returned (.int .i64 0) ∧ Below w.heap.size w w' := fun w => check_ok W H _ n c w (by omega) (by omega) (by rw [hn, Int.natCast_mul])
  have HCK := Lib.hid hck
  clear hp hn hck
  go_enter Try.func15, Try.ntmps15
  go_wp2_with fail
  (with_reducible refine (HCK.out _).mono ?_); rintro e w1 ⟨rfl, hb1⟩
  obtain ⟨hc1, hf1⟩ := bcell hb1
  go_wp2_with fail
  have HBW := hid ((((Below.refl w.heap.size w).alloc (Nat.le_refl _) _).alloc (by simp) _).trans (hb1.mono (by simp; omega)))
  have hs1 : w.heap.size + 2 ≤ w1.heap.size := by have := hb1.size; simp at this; exact this
  have hl1 : w.heap.size < w1.heap.size := by omega
  go_region_held3 (fun w' => w'.cell? ⟨w.heap.size, 0, none⟩ = some (.int .i64 W) ∧ w'.cell? ⟨w.heap.size, 1, none⟩ = some (.int .i64 H)) (simp [go_sem, World.cell?_alloc_past, *]) (fail)
  all_goals
    go_wp2_with fail
    (with_reducible refine (build_any 36 _ W H (fun x y => f ((H - 1 - y) * W + (W - 1 - x))) _ (enters_of Try.func36 (by kernel_rfl) rfl) (turn2_gives W H g n c w.heap.size _ _ f _ ?_ ⟨?_, ?_, ?_⟩ ?_ ?_ hW hH HN.out ?_ ?_ ?_ ?_) hW hH).mono ?_)
    · exact HP.out.below (by repeat first | exact HBW.out | apply Below.drew | refine Below.alloc ?_ (by first | omega | (simp; omega)) _) hg
    · simp [go_sem, hl1, hc1]
    · simp [go_sem, hl1, hc1]
    · simp [go_sem, hl1, hc1]
    · simp [go_sem]
    · simp [go_sem]
    · simp; omega
    · simp; omega
    · simp; try omega
    · simp; try omega
    rintro e w3 ⟨g3, c3, rfl, hown, hb3⟩
    obtain ⟨hc3, hf3⟩ := bcell (hb1.trans (Below.trans (by repeat first | exact Below.refl _ _ | apply Below.drew | refine Below.alloc ?_ (by first | omega | (simp; omega)) _) (hb3.mono (by simp; omega))))
    clear hc1 hf1
    go_wp2
    refine bodyPost_ret (v := .tuple #[grid W H (.slice (some ⟨g3, 0, none⟩) (W * H) c3), .int .i64 0]) (by simp [results, Try.results15, go_sem, *]) rfl ⟨g3, c3, rfl, ?_, ?_⟩
    · exact (hown.far3 (by have := hown.lt.1; simp at this; omega)).mono (by simp; omega)
    · exact below3' HBW.out (Below.trans (by repeat first | exact Below.refl _ _ | apply Below.drew | refine Below.alloc ?_ (by first | omega | (simp; omega)) _) (hb3.mono (by simp; omega))) (Nat.le_refl _) (by omega)

set_option maxHeartbeats 1000000 in
theorem turn3 (W H : Nat) (k : Int) (g n c : Nat) (f : Nat → Int) (w : World) (hp : Px w g 0 n f) (hW : 1 ≤ W ∧ W ≤ 1024) (hH : 1 ≤ H ∧ H ≤ 1024) (hn : n = W * H) (hg : g < w.heap.size) (hk : bits .and .i64 k 3 = 3) :
    Calls Try.prog 15 #[grid W H (.slice (some ⟨g, 0, none⟩) n c), .int .i64 k] w (OkGrid H W (H * W) (flat H fun x y => f (x * W + (W - 1 - y))) w) := by
  have HP := hid hp
  have HN := hid hn
  have hck : ∀ w, Calls Try.prog 25 #[grid W H (.slice (some ⟨g, 0, none⟩) n c)] w fun e w' => e = .returned (.int .i64 0) ∧ Below w.heap.size w w' := fun w => check_ok W H _ n c w (by omega) (by omega) (by rw [hn, Int.natCast_mul])
  have HCK := Lib.hid hck
  clear hp hn hck
  go_enter Try.func15, Try.ntmps15
  go_wp2_with fail
  (with_reducible refine (HCK.out _).mono ?_); rintro e w1 ⟨rfl, hb1⟩
  obtain ⟨hc1, hf1⟩ := bcell hb1
  go_wp2_with fail
  have HBW := hid ((((Below.refl w.heap.size w).alloc (Nat.le_refl _) _).alloc (by simp) _).trans (hb1.mono (by simp; omega)))
  have hs1 : w.heap.size + 2 ≤ w1.heap.size := by have := hb1.size; simp at this; exact this
  have hl1 : w.heap.size < w1.heap.size := by omega
  go_region_held3 (fun w' => w'.cell? ⟨w.heap.size, 0, none⟩ = some (.int .i64 W) ∧ w'.cell? ⟨w.heap.size, 1, none⟩ = some (.int .i64 H)) (simp [go_sem, World.cell?_alloc_past, *]) (fail)
  all_goals
    go_wp2_with fail
    (with_reducible refine (build_any 37 _ H W (fun x y => f (x * W + (W - 1 - y))) _ (enters_of Try.func37 (by kernel_rfl) rfl) (turn3_gives W H g n c w.heap.size _ f _ ?_ ⟨?_, ?_, ?_⟩ ?_ hW hH HN.out ?_ ?_ ?_) hH hW).mono ?_)
    · exact HP.out.below (by repeat first | exact HBW.out | apply Below.drew | refine Below.alloc ?_ (by first | omega | (simp; omega)) _) hg
    · simp [go_sem, hl1, hc1]
    · simp [go_sem, hl1, hc1]
    · simp [go_sem, hl1, hc1]
    · simp [go_sem]
    · simp; omega
    · simp; omega
    · simp; try omega
    rintro e w3 ⟨g3, c3, rfl, hown, hb3⟩
    obtain ⟨hc3, hf3⟩ := bcell (hb1.trans (Below.trans (by repeat first | exact Below.refl _ _ | apply Below.drew | refine Below.alloc ?_ (by first | omega | (simp; omega)) _) (hb3.mono (by simp; omega))))
    clear hc1 hf1
    go_wp2
    refine bodyPost_ret (v := .tuple #[grid H W (.slice (some ⟨g3, 0, none⟩) (H * W) c3), .int .i64 0]) (by simp [results, Try.results15, go_sem, *]) rfl ⟨g3, c3, rfl, ?_, ?_⟩
    · exact (hown.far3 (by have := hown.lt.1; simp at this; omega)).mono (by simp; omega)
    · exact below3' HBW.out (Below.trans (by repeat first | exact Below.refl _ _ | apply Below.drew | refine Below.alloc ?_ (by first | omega | (simp; omega)) _) (hb3.mono (by simp; omega))) (Nat.le_refl _) (by omega)

set_option maxHeartbeats 1000000 in
theorem turn0 (W H : Nat) (k : Int) (g n c : Nat) (f : Nat → Int) (w : World) (hp : Px w g 0 n f) (hW : 1 ≤ W ∧ W ≤ 1024) (hH : 1 ≤ H ∧ H ≤ 1024) (hn : n = W * H) (hg : g < w.heap.size) (hk : bits .and .i64 k 3 = 0) :
    Calls Try.prog 15 #[grid W H (.slice (some ⟨g, 0, none⟩) n c), .int .i64 k] w (OkGrid W H n f w) := by
  have HP := hid hp
  have HN := hid hn
  have hck : ∀ w, Calls Try.prog 25 #[grid W H (.slice (some ⟨g, 0, none⟩) n c)] w fun e w' => e = .returned (.int .i64 0) ∧ Below w.heap.size w w' := fun w => check_ok W H _ n c w (by omega) (by omega) (by rw [hn, Int.natCast_mul])
  have HCK := Lib.hid hck
  clear hp hn hck
  go_enter Try.func15, Try.ntmps15
  go_wp2_with fail
  (with_reducible refine (HCK.out _).mono ?_); rintro e w1 ⟨rfl, hb1⟩
  obtain ⟨hc1, hf1⟩ := bcell hb1
  go_wp2_with fail
  have HBW := hid ((((Below.refl w.heap.size w).alloc (Nat.le_refl _) _).alloc (by simp) _).trans (hb1.mono (by simp; omega)))
  have hs1 : w.heap.size + 2 ≤ w1.heap.size := by have := hb1.size; simp at this; exact this
  have hl1 : w.heap.size < w1.heap.size := by omega
  go_region_held3 (fun w' => w'.cell? ⟨w.heap.size, 0, none⟩ = some (.int .i64 W) ∧ w'.cell? ⟨w.heap.size, 1, none⟩ = some (.int .i64 H)) (simp [go_sem, World.cell?_alloc_past, *]) (fail)
  all_goals
    go_wp2_with fail
    (with_reducible refine (clone_any W H g n c f _ ?_ ?_ ?_ ?_).mono ?_)
    · exact HP.out.below (by repeat first | exact HBW.out | apply Below.drew | refine Below.alloc ?_ (by first | omega | (simp; omega)) _) hg
    · rw [HN.out]; exact Nat.mul_pos (by omega) (by omega)
    · rw [HN.out]; exact Nat.le_trans (Nat.mul_le_mul hW.2 hH.2) (by omega)
    · simp; omega
    rintro e w3 ⟨g3, c3, rfl, hown, hb3⟩
    obtain ⟨hc3, hf3⟩ := bcell (hb1.trans (Below.trans (by repeat first | exact Below.refl _ _ | apply Below.drew | refine Below.alloc ?_ (by first | omega | (simp; omega)) _) (hb3.mono (by simp; omega))))
    clear hc1 hf1
    go_wp2
    refine bodyPost_ret (v := .tuple #[grid W H (.slice (some ⟨g3, 0, none⟩) n c3), .int .i64 0]) (by simp [results, Try.results15, go_sem, *]) rfl ⟨g3, c3, rfl, ?_, ?_⟩
    · exact (hown.far3 (by have := hown.lt.1; simp at this; omega)).mono (by simp; omega)
    · exact below3' HBW.out (Below.trans (by repeat first | exact Below.refl _ _ | apply Below.drew | refine Below.alloc ?_ (by first | omega | (simp; omega)) _) (hb3.mono (by simp; omega))) (Nat.le_refl _) (by omega)

theorem OkGrid.congr {W H : Int} {n : Nat} {f f' : Nat → Int} {w : World} {e : Ending} {w' : World} (h : OkGrid W H n f w e w') (hf : ∀ i, i < n → f i = f' i) : OkGrid W H n f' w e w' := by
  obtain ⟨g, c, he, ho, hb⟩ := h
  exact ⟨g, c, he, ho.congr hf, hb⟩

theorem flat_at {W x : Nat} (F : Nat → Nat → Int) (j : Nat) (h : x < W) : flat W F (j * W + x) = F x j := by
  unfold flat; rw [(idx_mod j h).1, (idx_mod j h).2]

/-- The pixel at (x, y) of the raster of F, of W columns and H rows, after r quarter turns. -/
def Turned (r W H : Nat) (F : Nat → Nat → Int) : Nat → Nat → Int :=
  match r with
  | 0 => F
  | 1 => fun x y => F y (H - 1 - x)
  | 2 => fun x y => F (W - 1 - x) (H - 1 - y)
  | _ => fun x y => F (W - 1 - y) x
def tW (r W H : Nat) : Nat := match r with | 0 => W | 1 => H | 2 => W | _ => H
def tH (r W H : Nat) : Nat := match r with | 0 => H | 1 => W | 2 => H | _ => W

theorem quarter (k : Int) : bits .and .i64 k 3 = k % 4 := by
  show IntKind.i64.wrap ((BitVec.ofInt 64 k &&& BitVec.ofInt 64 3).toNat : Int) = _
  rw [BitVec.toNat_and, IntKind.wrap_i64]
  have e3 : (BitVec.ofInt 64 3).toNat = 2 ^ 2 - 1 := by decide
  rw [e3, Nat.and_two_pow_sub_one_eq_mod, BitVec.toNat_ofInt]
  omega

theorem turn_any (W H : Nat) (k : Int) (r : Nat) (g n c : Nat) (F : Nat → Nat → Int) (w : World) (hp : Px w g 0 n (flat W F)) (hW : 1 ≤ W ∧ W ≤ 1024) (hH : 1 ≤ H ∧ H ≤ 1024) (hn : n = W * H) (hg : g < w.heap.size) (hk : k % 4 = r) :
    Calls Try.prog 15 #[grid W H (.slice (some ⟨g, 0, none⟩) n c), .int .i64 k] w (OkGrid (tW r W H) (tH r W H) (tW r W H * tH r W H) (flat (tW r W H) (Turned r W H F)) w) := by
  have hq := quarter k
  rw [hk] at hq
  have hr : r = 0 ∨ r = 1 ∨ r = 2 ∨ r = 3 := by omega
  rcases hr with rfl | rfl | rfl | rfl
  · rw [hn] at hp ⊢
    exact turn0 W H k g (W * H) c _ w hp hW hH rfl hg hq
  · refine (turn1 W H k g n c _ w hp hW hH hn hg hq).mono fun e w' h => h.congr fun i hi => ?_
    have hy : i / H < W := (Nat.div_lt_iff_lt_mul (by omega)).2 (by rw [Nat.mul_comm]; exact hi)
    have hx : i % H < H := Nat.mod_lt _ (by omega)
    exact flat_at F _ hy
  · refine (turn2 W H k g n c _ w hp hW hH hn hg hq).mono fun e w' h => h.congr fun i hi => ?_
    have hx : i % W < W := Nat.mod_lt _ (by omega)
    exact flat_at F _ (by omega)
  · refine (turn3 W H k g n c _ w hp hW hH hn hg hq).mono fun e w' h => h.congr fun i hi => ?_
    have hy : i / H < W := (Nat.div_lt_iff_lt_mul (by omega)).2 (by rw [Nat.mul_comm]; exact hi)
    have hl : W - 1 - i / H < W := Nat.lt_of_le_of_lt (Nat.sub_le _ _) (by omega)
    exact flat_at F _ hl

end Go.Proofs.Ytdjjijkdalpggaa
