/- Turns add up; mirrors and half turns. -/
import Derived.Test.YtdjjijkdalpggaaMirror
import Derived.Test.YtdjjijkdalpggaaKnown
namespace Go.Proofs.Ytdjjijkdalpggaa
open Go Go.RowKit
set_option linter.unusedVariables false

theorem Var3.far3 {w : World} {b p : Nat} {x y z x' y' z' : Value} (h : Var3 w b x y z) (hp : b ≠ p) :
    Var3 (((w.setCell ⟨p, 0, none⟩ x').setCell ⟨p, 1, none⟩ y').setCell ⟨p, 2, none⟩ z') b x y z :=
  ((h.far (p := ⟨p, 0, none⟩) hp x').far (p := ⟨p, 1, none⟩) hp y').far (p := ⟨p, 2, none⟩) hp z'
theorem Var3.set3 {w : World} {b : Nat} {x y z x' y' z' : Value} (h : Var3 w b x y z) :
    Var3 (((w.setCell ⟨b, 0, none⟩ x').setCell ⟨b, 1, none⟩ y').setCell ⟨b, 2, none⟩ z') b x' y' z' := by
  unfold Var3 at h ⊢
  simp [World.setCell, Array.getElem?_modify, h]
theorem below_set3 {w0 w : World} {b : Nat} {x y z : Value} (h : Below w0.heap.size w0 w) (hb : w0.heap.size ≤ b) :
    Below w0.heap.size w0 (((w.setCell ⟨b, 0, none⟩ x).setCell ⟨b, 1, none⟩ y).setCell ⟨b, 2, none⟩ z) :=
  ((h.setCell (p := ⟨b, 0, none⟩) hb x).setCell (p := ⟨b, 1, none⟩) hb y).setCell (p := ⟨b, 2, none⟩) hb z
theorem size_set3 (w : World) (b : Nat) (x y z : Value) : (((w.setCell ⟨b, 0, none⟩ x).setCell ⟨b, 1, none⟩ y).setCell ⟨b, 2, none⟩ z).heap.size = w.heap.size := by simp [World.setCell]

theorem Px.congr {w : World} {g off n : Nat} {f f' : Nat → Int} (h : Px w g off n f) (hf : ∀ i, i < n → f i = f' i) : Px w g off n f' := fun i hi => by rw [← hf i hi]; exact h i hi

/-- A raster's pixels by column and row. -/
def byXY (W : Nat) (f : Nat → Int) (x y : Nat) : Int := f (y * W + x)
theorem flat_byXY (W : Nat) (f : Nat → Int) : flat W (byXY W f) = f := by
  funext i
  unfold flat byXY
  congr 1
  have := Nat.div_add_mod i W; rw [Nat.mul_comm] at this; exact this

theorem tW_comp (r s W H : Nat) (hr : r < 4) (hs : s < 4) : tW s (tW r W H) (tH r W H) = tW ((r + s) % 4) W H ∧ tH s (tW r W H) (tH r W H) = tH ((r + s) % 4) W H := by
  have : r = 0 ∨ r = 1 ∨ r = 2 ∨ r = 3 := by omega
  have : s = 0 ∨ s = 1 ∨ s = 2 ∨ s = 3 := by omega
  rcases ‹r = 0 ∨ _› with rfl | rfl | rfl | rfl <;> rcases ‹s = 0 ∨ _› with rfl | rfl | rfl | rfl <;> exact ⟨rfl, rfl⟩

theorem turned_comp (r s W H : Nat) (F : Nat → Nat → Int) (hr : r < 4) (hs : s < 4) (x y : Nat) (hx : x < tW ((r + s) % 4) W H) (hy : y < tH ((r + s) % 4) W H) :
    Turned s (tW r W H) (tH r W H) (Turned r W H F) x y = Turned ((r + s) % 4) W H F x y := by
  have : r = 0 ∨ r = 1 ∨ r = 2 ∨ r = 3 := by omega
  have : s = 0 ∨ s = 1 ∨ s = 2 ∨ s = 3 := by omega
  rcases ‹r = 0 ∨ _› with rfl | rfl | rfl | rfl <;> rcases ‹s = 0 ∨ _› with rfl | rfl | rfl | rfl <;> simp only [tW, tH, Turned, Nat.reduceAdd, Nat.reduceMod] at hx hy ⊢ <;> first | rfl | (congr 1 <;> omega)

theorem OkGrid.dims {W H W' H' n n' : Nat} {f f' : Nat → Int} {w : World} {e : Ending} {w' : World} (h : OkGrid W H n f w e w') (hW : W = W') (hH : H = H') (hn : n = n') (hf : ∀ i, i < n → f i = f' i) : OkGrid W' H' n' f' w e w' := by
  subst hW hH hn; exact h.congr hf

theorem tW_pos (r W H : Nat) (hW : 1 ≤ W ∧ W ≤ 1024) (hH : 1 ≤ H ∧ H ≤ 1024) : (1 ≤ tW r W H ∧ tW r W H ≤ 1024) ∧ (1 ≤ tH r W H ∧ tH r W H ≤ 1024) := by
  unfold tW tH
  split <;> exact ⟨by omega, by omega⟩

theorem flat_congr {W H : Nat} {F F' : Nat → Nat → Int} (hW : 1 ≤ W) (h : ∀ x y, x < W → y < H → F x y = F' x y) (i : Nat) (hi : i < W * H) : flat W F i = flat W F' i := by
  unfold flat
  exact h _ _ (Nat.mod_lt _ (by omega)) ((Nat.div_lt_iff_lt_mul (by omega)).2 (by rw [Nat.mul_comm]; exact hi))

/-- A raster that was turned, turned again. -/
theorem turn_turned (W H : Nat) (k : Int) (r s t : Nat) (g n c : Nat) (F : Nat → Nat → Int) (w : World) (hp : Px w g 0 n (flat (tW r W H) (Turned r W H F))) (hW : 1 ≤ W ∧ W ≤ 1024) (hH : 1 ≤ H ∧ H ≤ 1024) (hn : n = tW r W H * tH r W H) (hg : g < w.heap.size)
    (hr : r < 4) (hk : k % 4 = s) (ht : t = (r + s) % 4) :
    Calls Try.prog 15 #[grid (tW r W H : Nat) (tH r W H : Nat) (.slice (some ⟨g, 0, none⟩) n c), .int .i64 k] w (OkGrid (tW t W H : Nat) (tH t W H : Nat) (tW t W H * tH t W H) (flat (tW t W H) (Turned t W H F)) w) := by
  have hs : s < 4 := by omega
  obtain ⟨c1, c2⟩ := tW_comp r s W H hr hs
  obtain ⟨p1, p2⟩ := tW_pos r W H hW hH
  rw [← ht] at c1 c2
  refine (turn_any (tW r W H) (tH r W H) k s g n c (Turned r W H F) w hp p1 p2 hn hg hk).mono fun e w' h => h.dims c1 c2 (by rw [c1, c2]) fun i hi => ?_
  rw [c1, c2] at hi
  rw [c1]
  refine flat_congr (tW_pos t W H hW hH).1.1 (fun x y hx hy => ?_) i hi
  rw [ht] at hx hy ⊢
  exact turned_comp r s W H F hr hs x y hx hy

theorem turn_two (W H : Nat) (g n c : Nat) (F : Nat → Nat → Int) (w : World) (hp : Px w g 0 n (flat W F)) (hW : 1 ≤ W ∧ W ≤ 1024) (hH : 1 ≤ H ∧ H ≤ 1024) (hn : n = W * H) (hg : g < w.heap.size) :
    Calls Try.prog 15 #[grid W H (.slice (some ⟨g, 0, none⟩) n c), .int .i64 2] w (OkGrid W H n (flat W fun x y => F (W - 1 - x) (H - 1 - y)) w) := by
  subst hn
  exact turn_any W H 2 2 g (W * H) c F w hp hW hH rfl hg rfl

theorem tW_mul (r W H : Nat) : tW r W H * tH r W H = W * H := by
  unfold tW tH; split <;> first | rfl | exact Nat.mul_comm _ _

theorem turn_n (W H : Nat) (k : Int) (r : Nat) (g n c : Nat) (F : Nat → Nat → Int) (w : World) (hp : Px w g 0 n (flat W F)) (hW : 1 ≤ W ∧ W ≤ 1024) (hH : 1 ≤ H ∧ H ≤ 1024) (hn : n = W * H) (hg : g < w.heap.size) (hk : k % 4 = r) :
    Calls Try.prog 15 #[grid W H (.slice (some ⟨g, 0, none⟩) n c), .int .i64 k] w (OkGrid (tW r W H : Nat) (tH r W H : Nat) n (flat (tW r W H) (Turned r W H F)) w) :=
  (turn_any W H k r g n c F w hp hW hH hn hg hk).mono fun _ _ h => h.dims rfl rfl (by rw [tW_mul, hn]) (fun _ _ => rfl)

theorem tmod4 (k : Int) (r : Nat) (h : k % 4 = r) : -4 < k.tmod 4 ∧ k.tmod 4 < 4 ∧ (k.tmod 4 + 4) % 4 = r := by
  refine ⟨Int.lt_tmod_of_pos k (by omega), Int.tmod_lt_of_pos k (by omega), ?_⟩
  have e := Int.mul_tdiv_add_tmod k 4
  omega

/-- The n-th quarter turn of a pixel. -/
theorem turned_next (m W H x y : Nat) (F : Nat → Nat → Int) (hm : m < 3) (hx : x < tW m W H) (hy : y < tH m W H) :
    tH m W H - 1 - y < tW (m + 1) W H ∧ x < tH (m + 1) W H ∧ tW (m + 1) W H = tH m W H ∧ tH (m + 1) W H = tW m W H ∧ Turned (m + 1) W H F (tH m W H - 1 - y) x = Turned m W H F x y := by
  have : m = 0 ∨ m = 1 ∨ m = 2 := by omega
  rcases this with rfl | rfl | rfl <;> simp only [tW, tH] at hx hy <;> refine ⟨?_, ?_, rfl, rfl, ?_⟩ <;> simp only [tW, tH, Turned, Nat.reduceAdd] <;> first | omega | exact congr (congrArg F (by omega)) (by omega)

end Go.Proofs.Ytdjjijkdalpggaa
