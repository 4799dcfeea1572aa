/- What slices.Clone and clone return: the same pixels in new memory. -/
import Derived.Test.YtdjjijkdalpggaaGrid
import Derived.Deep.AppendLies
import Derived.Maps.AppendAt
import Derived.Deep.RegionWith
import Derived.Deep.RegionHeld3
import Derived.Deep.DrawnRows
namespace Go.Proofs.Ytdjjijkdalpggaa
open Go Go.RowKit
set_option linter.unusedVariables false

/-- The first n values of f, as cells. -/
def pixs (f : Nat → Int) (n : Nat) : List Value := (List.range n).map fun i => .int .u8 (f i)
theorem pixs_length (f : Nat → Int) (n : Nat) : (pixs f n).length = n := by simp [pixs]
theorem pixs_at (f : Nat → Int) (n i : Nat) (h : i < n) : (pixs f n)[i]? = some (.int .u8 (f i)) := by simp [pixs, h]
theorem pixs_snoc (f : Nat → Int) (n : Nat) : pixs f (n + 1) = pixs f n ++ [.int .u8 (f n)] := by simp [pixs, List.range_succ]
theorem pixs_congr {f f' : Nat → Int} {n : Nat} (h : ∀ i, i < n → f i = f' i) : pixs f n = pixs f' n := by
  unfold pixs
  refine List.map_congr_left fun i hi => ?_
  rw [h i (List.mem_range.1 hi)]
theorem pixs_one (f : Nat → Int) (n : Nat) : ∀ u ∈ pixs f n, u.oneCell' = true := by
  intro u hu
  obtain ⟨i, _, rfl⟩ := List.mem_map.1 hu
  rfl
theorem pixs_append (f f' : Nat → Int) (n m : Nat) : pixs f n ++ pixs f' m = pixs (fun i => if i < n then f i else f' (i - n)) (n + m) := by
  refine List.ext_getElem? fun i => ?_
  by_cases h : i < n
  · rw [List.getElem?_append_left (by rw [pixs_length]; exact h), pixs_at _ _ _ h, pixs_at _ _ _ (by omega), if_pos h]
  · rw [List.getElem?_append_right (by rw [pixs_length]; omega), pixs_length]
    by_cases h2 : i - n < m
    · rw [pixs_at _ _ _ h2, pixs_at _ _ _ (by omega), if_neg h]
    · rw [List.getElem?_eq_none (by rw [pixs_length]; omega), List.getElem?_eq_none (by rw [pixs_length]; omega)]
theorem pixs_px {w : World} {g off n : Nat} {f : Nat → Int} (h : Px w g off n f) (j : Nat) (u : Value) (hu : (pixs f n)[j]? = some u) : w.cell? ((⟨g, off, none⟩ : Addr).add j) = some u := by
  have hj : j < n := by
    rcases Nat.lt_or_ge j n with h | h
    · exact h
    · rw [List.getElem?_eq_none (by rw [pixs_length]; exact h)] at hu; cases hu
  rw [pixs_at _ _ _ hj] at hu
  rw [← hu, ← h j hj]
  by_cases h0 : j = 0 <;> simp [Addr.add, h0]

/-- A row of pixels of the call's own. -/
def Own (w : World) (B : Nat) (g n c : Nat) (f : Nat → Int) : Prop := w.ownsRow B 5 1 (.slice (some ⟨g, 0, none⟩) n c) n (pixs f n)
theorem Own.px {w : World} {B g n c : Nat} {f : Nat → Int} (h : Own w B g n c f) : Px w g 0 n f := fun i hi => by
  rw [World.ownsRow.cellAt h (0 + i) (by omega), Nat.zero_add]; exact pixs_at f n i hi
theorem Own.lt {w : World} {B g n c : Nat} {f : Nat → Int} (h : Own w B g n c f) : B ≤ g ∧ g < w.heap.size := World.ownsRow.lt h g rfl
theorem Own.cap {w : World} {B g n c : Nat} {f : Nat → Int} (h : Own w B g n c f) : n ≤ c ∧ c ≤ 9223372036854775807 := by
  rcases h.2 with ⟨h', _⟩ | ⟨g', cap', cur, h', _, _, h1, h2, _⟩
  · cases h'
  · cases h'; unfold maxLen at h2; exact ⟨h1, h2⟩

theorem Own.mono {w : World} {B B' g n c : Nat} {f : Nat → Int} (h : Own w B g n c f) (hB : B' ≤ B) : Own w B' g n c f := by
  refine ⟨h.1, ?_⟩
  rcases h.2 with h | ⟨g', cap', cur, h1, h2, h3⟩
  · exact .inl h
  · exact .inr ⟨g', cap', cur, h1, Nat.le_trans hB h2, h3⟩
theorem Own.keep {w w' : World} {B g n c : Nat} {f : Nat → Int} (h : Own w B g n c f) (hk : w'.heap[g]? = w.heap[g]?) : Own w' B g n c f := by
  refine ⟨h.1, ?_⟩
  rcases h.2 with h | ⟨g', cap', cur, h1, h2, h3, h4⟩
  · exact .inl h
  · have e : g' = g := by injection h1 with h1 _ _; injection h1 with h1; injection h1 with h1; exact h1.symm
    subst e
    exact .inr ⟨g', cap', cur, h1, h2, hk.trans h3, h4⟩
theorem Own.drew {w : World} {B g n c : Nat} {f : Nat → Int} (h : Own w B g n c f) : Own w.drew B g n c f := h
theorem Own.alloc {w : World} {B g n c : Nat} {f : Nat → Int} (h : Own w B g n c f) (o : Obj) : Own (w.alloc o) B g n c f := h.keep (Below.heap_alloc _ _ _ h.lt.2)
theorem Own.far {w : World} {B g n c : Nat} {f : Nat → Int} (h : Own w B g n c f) {p : Addr} (hp : g ≠ p.block) (u : Value) : Own (w.setCell p u) B g n c f := h.keep (Below.heap_setCell _ _ _ _ hp)
theorem Own.below {w w' : World} {B B' g n c : Nat} {f : Nat → Int} (h : Own w B g n c f) (hb : Below B' w w') (hg : g < B') : Own w' B g n c f := h.keep (hb.block g hg)
theorem Own.congr {w : World} {B g n c : Nat} {f f' : Nat → Int} (h : Own w B g n c f) (hf : ∀ i, i < n → f i = f' i) : Own w B g n c f' := by
  unfold Own at h ⊢
  rw [← pixs_congr hf]; exact h

theorem Own.far3 {w : World} {B g n c b : Nat} {f : Nat → Int} {x y z : Value} (h : Own w B g n c f) (hp : g ≠ b) :
    Own (((w.setCell ⟨b, 0, none⟩ x).setCell ⟨b, 1, none⟩ y).setCell ⟨b, 2, none⟩ z) B g n c f := ((h.far (p := ⟨b, 0, none⟩) hp x).far (p := ⟨b, 1, none⟩) hp y).far (p := ⟨b, 2, none⟩) hp z
theorem below3 {b : Nat} {w0 w w1 : World} {x y z : Value} (h : Below w0.heap.size w0 w) (hb : Below w.heap.size w w1) (hp : w0.heap.size ≤ b) :
    Below w0.heap.size w0 (((w1.setCell ⟨b, 0, none⟩ x).setCell ⟨b, 1, none⟩ y).setCell ⟨b, 2, none⟩ z) :=
  (((h.trans (hb.mono h.size)).setCell (p := ⟨b, 0, none⟩) hp x).setCell (p := ⟨b, 1, none⟩) hp y).setCell (p := ⟨b, 2, none⟩) hp z

theorem below3' {b B : Nat} {w0 w w1 : World} {x y z : Value} (h : Below w0.heap.size w0 w) (hb : Below B w w1) (hB : w0.heap.size ≤ B) (hp : w0.heap.size ≤ b) :
    Below w0.heap.size w0 (((w1.setCell ⟨b, 0, none⟩ x).setCell ⟨b, 1, none⟩ y).setCell ⟨b, 2, none⟩ z) :=
  (((h.trans (hb.mono hB)).setCell (p := ⟨b, 0, none⟩) hp x).setCell (p := ⟨b, 1, none⟩) hp y).setCell (p := ⟨b, 2, none⟩) hp z

theorem below_alloc {w W : World} (h : Below w.heap.size w W) (o : Obj) : Below w.heap.size w (W.alloc o) := h.alloc h.size o
theorem below_next {w W w' : World} (h : Below w.heap.size w W) (hb : Below W.heap.size W w') : Below w.heap.size w w' := h.trans (hb.mono h.size)
theorem below_drewN {B : Nat} {a w : World} (h : Below B a w) (n : Nat) : Below B a (w.drewN n) := ⟨h.os, h.tape, h.output, h.size, h.block⟩

theorem bcell {W w1 : World} (hb : Below W.heap.size W w1) : (∀ b o, b < W.heap.size → w1.cell? ⟨b, o, none⟩ = W.cell? ⟨b, o, none⟩) ∧ (∀ b o, b < W.heap.size → w1.frozen? ⟨b, o, none⟩ = W.frozen? ⟨b, o, none⟩) :=
  ⟨fun b o h => hb.cell (p := ⟨b, o, none⟩) h, fun b o h => hb.frozen (p := ⟨b, o, none⟩) h⟩

/-- A variable of three cells, made ahead of what followed. -/
theorem box3 {w wr : World} {a b c : Value} {t : TypeId} (hb : Below (w.heap.size + 1) (w.alloc (.cells #[a, b, c] t)) wr) :
    wr.cell? ⟨w.heap.size, 0, none⟩ = some a ∧ wr.cell? ⟨w.heap.size, 1, none⟩ = some b ∧ wr.cell? ⟨w.heap.size, 2, none⟩ = some c ∧ ∀ i, wr.frozen? ⟨w.heap.size, i, none⟩ = false :=
  ⟨(hb.cell (p := ⟨w.heap.size, 0, none⟩) (Nat.lt_succ_self _)).trans (by simp), (hb.cell (p := ⟨w.heap.size, 1, none⟩) (Nat.lt_succ_self _)).trans (by simp),
   (hb.cell (p := ⟨w.heap.size, 2, none⟩) (Nat.lt_succ_self _)).trans (by simp), fun i => (hb.frozen (p := ⟨w.heap.size, i, none⟩) (Nat.lt_succ_self _)).trans (by simp)⟩

theorem Px.below {w w' : World} {g off n B : Nat} {f : Nat → Int} (h : Px w g off n f) (hb : Below B w w') (hg : g < B) : Px w' g off n f :=
  fun i hi => (hb.cell (p := ⟨g, off + i, none⟩) hg).trans (h i hi)
theorem Px.part {w : World} {g off n : Nat} {f : Nat → Int} (h : Px w g off n f) (k m : Nat) (hk : k + m ≤ n) : Px w g (off + k) m fun i => f (k + i) :=
  fun i hi => by rw [Nat.add_assoc]; exact h (k + i) (by omega)
theorem Px.drew {w : World} {g off n : Nat} {f : Nat → Int} (h : Px w g off n f) : Px w.drew g off n f := h

theorem below_own {w0 w w1 : World} {B b n c : Nat} (h : Below B w0 w) (hg : w.grownBy w1 (Value.slice (some ⟨b, 0, none⟩) n c).ownBlock) (hB : B ≤ w.heap.size) (hb : B ≤ b) : Below B w0 w1 :=
  h.grown hg hB (fun k hk => by injection hk with hk; rw [← hk]; exact hb)

theorem info5 : (Try.prog.info? 5).map (fun i => (i.zero, i.size, i.bytes)) = some (some (.int .u8 0), 1, 1) := by kernel_rfl

def NewRow (n : Nat) (f : Nat → Int) (w : World) (e : Ending) (w' : World) : Prop :=
  ∃ g c, e = .returned (.slice (some ⟨g, 0, none⟩) n c) ∧ Own w' w.heap.size g n c f ∧ Below w.heap.size w w'

theorem sclone_any (g off n c : Nat) (f : Nat → Int) (w : World) (hp : Px w g off n f) (hn : 1 ≤ n) (hm : n ≤ 4194304) (hg : g < w.heap.size) :
    Calls Try.prog 51 #[.slice (some ⟨g, off, none⟩) n c] w (NewRow n f w) := by
  obtain ⟨i0, hi, hz0, hz1, hz2⟩ := info_parts info5
  have hnews := pixs_px (hp.below ((Below.refl _ _).alloc (Nat.le_refl _) (.cells #[] 5)) hg)
  have HP := hid hnews
  clear hp hnews
  have hq := fun W => Lib.run_eql_slice_nil (P := Try.prog) W 22 5 (some ⟨g, off, none⟩) n c 0 0 Try.underlying22
  go_enter Try.func51, Try.ntmps51
  go_wp2_with
    (at_builtin
     refine wpList_append_lies _ rfl _ _ 22 rfl w.heap.size 5 i0 (.int .u8 0) 1 1 Try.underlying22 hi hz0 hz1 hz2 rfl (by decide) (.slice (some ⟨w.heap.size, 0, none⟩) 0 0) 0 [] rfl
       (World.ownsRow_made w #[] 0 (Nat.le_refl _) (by decide) rfl) ⟨g, off, none⟩ n c (pixs f n) rfl (by rw [pixs_length, Nat.mul_one]) HP.out (pixs_one f n) (by omega) (by unfold maxLen; omega) (by omega) (by simp) (w.heap.size + 1) (by simp) ?_
     intro g1 c1 w1 hown hgrow hat hlt)
  go_ret
  rw [Nat.zero_add, List.nil_append] at hown
  exact ⟨_, _, rfl, hown, below_own ((Below.refl _ _).alloc (Nat.le_refl _) _) hgrow (by simp) (Nat.le_refl _)⟩

/-- A raster of the call's own. -/
def NewGrid (W H : Int) (n : Nat) (f : Nat → Int) (w : World) (e : Ending) (w' : World) : Prop :=
  ∃ g c, e = .returned (grid W H (.slice (some ⟨g, 0, none⟩) n c)) ∧ Own w' w.heap.size g n c f ∧ Below w.heap.size w w'

set_option maxHeartbeats 400000 in
theorem clone_any (W H : Int) (g n c : Nat) (f : Nat → Int) (w : World) (hp : Px w g 0 n f) (hn : 1 ≤ n) (hm : n ≤ 4194304) (hg : g < w.heap.size) :
    Calls Try.prog 38 #[grid W H (.slice (some ⟨g, 0, none⟩) n c)] w (NewGrid W H n f w) := by
  have HP := hid hp
  clear hp
  go_enter Try.func38, Try.ntmps38
  go_wp2_with fail
  go_region_held3 (fun w' => w'.cell? ⟨w.heap.size, 0, none⟩ = some (.int .i64 W) ∧ w'.cell? ⟨w.heap.size, 1, none⟩ = some (.int .i64 H) ∧ w'.cell? ⟨w.heap.size, 2, none⟩ = some (.slice (some ⟨g, 0, none⟩) n c)) (simp [go_sem, World.cell?_alloc_past, *])
    ((go_at_call 51; refine (sclone_any g 0 n c f _ ?_ hn hm ?_).mono ?_; (exact HP.out.below (by repeat first | exact Below.refl _ _ | apply Below.drew | refine Below.alloc ?_ (by simp) _) hg); (simp; omega); rintro e w1 ⟨g1, c1, rfl, hown, hb⟩; obtain ⟨hc, hf⟩ := bcell hb))
  go_wp2
  refine bodyPost_ret (v := grid W H (.slice (some ⟨g1, 0, none⟩) n c1)) (by simp [results, Try.results38, go_sem, *]) rfl ⟨g1, c1, rfl, ?_, ?_⟩
  · exact (hown.far3 (by have := hown.lt.1; simp at this; omega)).mono (by simp; omega)
  · exact below3 (by repeat first | exact Below.refl _ _ | apply Below.drew | refine Below.alloc ?_ (by simp) _) hb (by omega)

end Go.Proofs.Ytdjjijkdalpggaa
