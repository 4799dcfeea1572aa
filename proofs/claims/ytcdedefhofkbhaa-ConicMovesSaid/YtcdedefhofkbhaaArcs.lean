/- A quarter of a circle: what the statements' helpers return, and how near to the circle its points lie. -/
import Derived.Test.YtcdedefhofkbhaaPnt
import Derived.Test.YtcdedefhofkbhaaCut
namespace Go.Proofs.Ytcdedefhofkbhaa
open Go Go.RowKit
set_option linter.unusedVariables false
set_option linter.unusedSimpArgs false

theorem sq_mono {a b : Int} (h0 : 0 ≤ a) (h : a ≤ b) : a * a ≤ b * b := Int.mul_le_mul h h h0 (Int.le_trans h0 h)
theorem circ_upper (D u v r x y C : Int) (hD : 0 < D) (hr : 0 ≤ r) (hx0 : 0 ≤ x) (hy0 : 0 ≤ y) (hx : 2 * (x * D) ≤ 2 * (r * u) + D) (hy : 2 * (y * D) ≤ 2 * (r * v) + D)
   (hid : u * u + v * v = D * D - 28 * (C * C)) (huv : 2 * (u + v) ≤ 3 * D) (hC : 0 ≤ C) : x * x + y * y ≤ (r + 2) * (r + 2) := by
  have hxd : 0 ≤ x * D := Int.mul_nonneg hx0 (Int.le_of_lt hD)
  have hyd : 0 ≤ y * D := Int.mul_nonneg hy0 (Int.le_of_lt hD)
  have h1 := sq_mono (a := 2 * (x * D)) (by omega) hx
  have h2 := sq_mono (a := 2 * (y * D)) (by omega) hy
  have h3 : 0 ≤ C * C := Int.mul_nonneg hC hC
  have h4 : 0 ≤ r * D := Int.mul_nonneg hr (Int.le_of_lt hD)
  have h5 := Int.mul_le_mul_of_nonneg_left huv h4
  have h6 : 0 ≤ (r * r) * (C * C) := Int.mul_nonneg (Int.mul_nonneg hr hr) h3
  have h7 : 0 ≤ r * (D * D) := Int.mul_nonneg hr (Int.mul_nonneg (Int.le_of_lt hD) (Int.le_of_lt hD))
  have h8 : 0 < D * D := Int.mul_pos hD hD
  have h9 : r * r * (u * u + v * v) = r * r * (D * D) - 28 * (r * r * (C * C)) := by rw [hid]; grind
  have key : (D * D) * (x * x + y * y) ≤ (D * D) * ((r + 2) * (r + 2)) := by
    grind
  exact Int.le_of_mul_le_mul_left key h8
theorem circ_lower (D u v r x y C : Int) (hD : 0 < D) (hr : 4 ≤ r) (hr2 : r ≤ 30000) (hx0 : 0 ≤ x) (hy0 : 0 ≤ y) (hu : 0 ≤ u) (hv : 0 ≤ v) (hx : 2 * (r * u) + D < 2 * (x * D) + 2 * D) (hy : 2 * (r * v) + D < 2 * (y * D) + 2 * D)
   (hid : u * u + v * v = D * D - 28 * (C * C)) (huv : 2 * (u + v) ≤ 3 * D) (hC : 0 ≤ C) (hDC : 874 * C ≤ D) : (r - 2) * (r - 2) ≤ x * x + y * y := by
  have hxd : 0 ≤ x * D := Int.mul_nonneg hx0 (Int.le_of_lt hD)
  have hyd : 0 ≤ y * D := Int.mul_nonneg hy0 (Int.le_of_lt hD)
  have hru : 0 ≤ r * u := Int.mul_nonneg (by omega) hu
  have hrv : 0 ≤ r * v := Int.mul_nonneg (by omega) hv
  have one : ∀ t X : Int, 0 ≤ t → 0 ≤ X → 2 * t + D < 2 * X + 2 * D → t * t - 2 * (t * D) + 0 ≤ X * X - t * D := by
    intro t X ht hX h
    by_cases c : D ≤ 2 * t
    · have := sq_mono (a := 2 * t - D) (b := 2 * X) (by omega) (by omega)
      have hd := Int.mul_nonneg (a := D) (b := D) (by omega) (by omega)
      grind
    · have h1 : 0 ≤ t * (D - t) := Int.mul_nonneg ht (by omega)
      have h2 := Int.mul_nonneg hX hX
      grind
  have h1 := one (r * u) (x * D) hru hxd hx
  have h2 := one (r * v) (y * D) hrv hyd hy
  have h3 : 0 ≤ C * C := Int.mul_nonneg hC hC
  have h4 : 0 ≤ r * D := Int.mul_nonneg (by omega) (Int.le_of_lt hD)
  have h5 := Int.mul_le_mul_of_nonneg_left huv h4
  have h8 : 0 < D * D := Int.mul_pos hD hD
  have h9 : r * r * (u * u + v * v) = r * r * (D * D) - 28 * (r * r * (C * C)) := by rw [hid]; grind
  -- 763876 C² ≤ D²
  have h10 : 763876 * (C * C) ≤ D * D := by
    have := sq_mono (a := 874 * C) (by omega) hDC
    grind
  -- r² C² ≤ 30000 r C²
  have h11 : r * r * (C * C) ≤ 30000 * (r * (C * C)) := by
    have a1 : 0 ≤ r * (C * C) := Int.mul_nonneg (by omega) h3
    have a2 : 0 ≤ (30000 - r) * (r * (C * C)) := Int.mul_nonneg (by omega) a1
    grind
  have h12 : 763876 * (r * (C * C)) ≤ r * (D * D) := by
    have := Int.mul_le_mul_of_nonneg_left h10 (show 0 ≤ r by omega)
    grind
  have h13 : 4 * (D * D) ≤ r * (D * D) := Int.mul_le_mul_of_nonneg_right hr (Int.le_of_lt h8)
  have key : (D * D) * ((r - 2) * (r - 2)) ≤ (D * D) * (x * x + y * y) := by
    have e1 : (D * D) * ((r - 2) * (r - 2)) = r * r * (D * D) - 4 * (r * (D * D)) + 4 * (D * D) := by grind
    have e2 : (D * D) * (x * x + y * y) = (x * D) * (x * D) + (y * D) * (y * D) := by grind
    have e3 : (r * u) * (r * u) + (r * v) * (r * v) = r * r * (u * u + v * v) := by grind
    have e4 : r * D * (2 * (u + v)) = 2 * (r * u * D + r * v * D) := by grind
    have e5 : r * D * (3 * D) = 3 * (r * (D * D)) := by grind
    rw [e1, e2]
    omega
  exact Int.le_of_mul_le_mul_left key h8

abbrev arcS (r : Int) : Sg := ⟨3, 0, r, r, r, 181⟩
theorem circle {r : Int} {k n : Nat} (hr : 4 ≤ r ∧ r ≤ 30000) (h1 : 1 ≤ n) (h2 : n ≤ 1024) (hk : k ≤ n) :
    (r - 2) * (r - 2) ≤ ((cuOf ⟨r, 0⟩ (arcS r)).at k n).x * ((cuOf ⟨r, 0⟩ (arcS r)).at k n).x + ((cuOf ⟨r, 0⟩ (arcS r)).at k n).y * ((cuOf ⟨r, 0⟩ (arcS r)).at k n).y ∧
    ((cuOf ⟨r, 0⟩ (arcS r)).at k n).x * ((cuOf ⟨r, 0⟩ (arcS r)).at k n).x + ((cuOf ⟨r, 0⟩ (arcS r)).at k n).y * ((cuOf ⟨r, 0⟩ (arcS r)).at k n).y ≤ (r + 2) * (r + 2) := by
  have hk' : InK 181 k n := ⟨by omega, by omega, by omega, by omega, by omega, by omega⟩
  obtain ⟨⟨x0, -⟩, ⟨y0, -⟩⟩ := at_hull (c := cuOf ⟨r, 0⟩ (arcS r)) ⟨by show (16 : Int) ≤ 181; decide, by show (181 : Int) ≤ 4096; decide⟩ h1 h2 hk
  have hw0 := w0_bd hk'
  have hw1 := w1_bd hk'
  have hw2 := w2_bd hk'
  have hD := ww_pos hk'
  have bx := rnd_bd (a := w0 k n * r + w1 181 k n * r + w2 k * 0) hD
  have by' := rnd_bd (a := w0 k n * 0 + w1 181 k n * r + w2 k * r) hD
  have hx0 : 0 ≤ ((cuOf ⟨r, 0⟩ (arcS r)).at k n).x := Int.le_trans (by simp [cuOf]; omega) x0
  have hy0 : 0 ≤ ((cuOf ⟨r, 0⟩ (arcS r)).at k n).y := Int.le_trans (by simp [cuOf]; omega) y0
  have ex : ((cuOf ⟨r, 0⟩ (arcS r)).at k n).x = rnd (w0 k n * r + w1 181 k n * r + w2 k * 0) (ww 181 k n) := rfl
  have ey : ((cuOf ⟨r, 0⟩ (arcS r)).at k n).y = rnd (w0 k n * 0 + w1 181 k n * r + w2 k * r) (ww 181 k n) := rfl
  rw [← ex] at bx
  rw [← ey] at by'
  generalize ((cuOf ⟨r, 0⟩ (arcS r)).at k n).x = x at *
  generalize ((cuOf ⟨r, 0⟩ (arcS r)).at k n).y = y at *
  have hC : 0 ≤ (k : Int) * ((n : Int) - k) := Int.mul_nonneg (by omega) (by omega)
  have hsq : 0 ≤ ((n : Int) - k - k) * ((n : Int) - k - k) := by
    rcases Int.le_total 0 ((n : Int) - k - k) with h | h
    · exact Int.mul_nonneg h h
    · have := Int.mul_nonneg (a := -((n : Int) - k - k)) (b := -((n : Int) - k - k)) (by omega) (by omega)
      rwa [Int.neg_mul_neg] at this
  have e1 : w1 181 k n = 362 * ((k : Int) * ((n : Int) - k)) := by unfold w1; grind
  have e0 : w0 k n = 256 * (((n : Int) - k) * ((n : Int) - k)) := by unfold w0; grind
  have e2 : w2 k = 256 * ((k : Int) * k) := by unfold w2; grind
  have am : 2 * ((k : Int) * ((n : Int) - k)) ≤ ((n : Int) - k) * ((n : Int) - k) + (k : Int) * k := by grind
  have hAB : (((n : Int) - k) * ((n : Int) - k)) * ((k : Int) * k) = ((k : Int) * ((n : Int) - k)) * ((k : Int) * ((n : Int) - k)) := by grind
  have hid : (w0 k n + w1 181 k n) * (w0 k n + w1 181 k n) + (w1 181 k n + w2 k) * (w1 181 k n + w2 k) = ww 181 k n * ww 181 k n - 28 * (((k : Int) * ((n : Int) - k)) * ((k : Int) * ((n : Int) - k))) := by
    unfold ww
    rw [e0, e1, e2]
    generalize ((n : Int) - k) * ((n : Int) - k) = A at *
    generalize (k : Int) * k = B at *
    generalize (k : Int) * ((n : Int) - k) = C at *
    grind
  have huv : 2 * ((w0 k n + w1 181 k n) + (w1 181 k n + w2 k)) ≤ 3 * ww 181 k n := by unfold ww; omega
  have hDC : 874 * ((k : Int) * ((n : Int) - k)) ≤ ww 181 k n := by unfold ww; omega
  have f1 : w0 k n * r + w1 181 k n * r + w2 k * 0 = r * (w0 k n + w1 181 k n) := by grind
  have f2 : w0 k n * 0 + w1 181 k n * r + w2 k * r = r * (w1 181 k n + w2 k) := by grind
  rw [f1] at bx
  rw [f2] at by'
  exact ⟨circ_lower (ww 181 k n) (w0 k n + w1 181 k n) (w1 181 k n + w2 k) r x y _ hD hr.1 hr.2 hx0 hy0 (by omega) (by omega) bx.2 by'.2 hid huv hC hDC,
    circ_upper (ww 181 k n) (w0 k n + w1 181 k n) (w1 181 k n + w2 k) r x y _ hD (by omega) hx0 hy0 bx.1 by'.1 hid huv hC⟩

/-! ### the helpers of the statements -/
/-- The cells of points in a block. -/
theorem own_ge {w : World} {B n g c : Nat} {xs : List Value} (h : w.ownsRow B 23 2 (.slice (some ⟨g, 0, none⟩) n c) n xs) : 0 < B + 1 ∧ B ≤ g := by
  rcases h.2 with ⟨h0, _⟩ | ⟨g2, cap, cur, hv, hb, _⟩
  · cases h0
  · injection hv with hv; injection hv with hv; injection hv with hv; subst hv; exact ⟨by omega, hb⟩
def Row2 (w : World) (g : Nat) (ps : List P2) : Prop := ∀ i p, ps[i]? = some p → w.cell? ⟨g, i * 2, none⟩ = some (.int .i64 p.x) ∧ w.cell? ⟨g, i * 2 + 1, none⟩ = some (.int .i64 p.y)
theorem own_row {w : World} {B n : Nat} {v : Value} {ps : List P2} (h : w.ownsRow B 23 2 v n (pfl ps)) (hn : 0 < n) : ∃ g c, v = .slice (some ⟨g, 0, none⟩) n c ∧ B ≤ g ∧ g < w.heap.size ∧ Row2 w g ps := by
  rcases h.2 with ⟨_, h0⟩ | ⟨g, cap, cur, hv, hb, hh, hc1, hc2, hsz, ht⟩
  · omega
  · have hlt : g < w.heap.size := by
      rcases Nat.lt_or_ge g w.heap.size with h | h
      · exact h
      · rw [Array.getElem?_eq_none h] at hh; cases hh
    have hcell : ∀ j u, (pfl ps)[j]? = some u → w.cell? ⟨g, j, none⟩ = some u := fun j u hu => by
      have hj : j < n * 2 := by
        rcases Nat.lt_or_ge j (n * 2) with k | k
        · exact k
        · rw [List.getElem?_eq_none (by rw [h.1]; exact k)] at hu; cases hu
      rw [← ht, List.getElem?_take, if_pos hj] at hu
      simp only [World.cell?, hh]
      simpa using hu
    exact ⟨g, cap, hv, hb, hlt, fun i p hp => ⟨hcell _ _ (pfl_get ps i p hp).1, hcell _ _ (pfl_get ps i p hp).2⟩⟩
theorem Row2.far {w : World} {g m j : Nat} {ps : List P2} (h : Row2 w g ps) (hn : g ≠ m) (u : Value) : Row2 (w.setCell ⟨m, j, none⟩ u) g ps :=
  fun i p hp => ⟨(World.cell?_of_block (a := ⟨g, i * 2, none⟩) (Below.heap_setCell w ⟨m, j, none⟩ u g hn)).trans (h i p hp).1, (World.cell?_of_block (a := ⟨g, i * 2 + 1, none⟩) (Below.heap_setCell w ⟨m, j, none⟩ u g hn)).trans (h i p hp).2⟩
theorem Row2.next {w w' : World} {g : Nat} {ps : List P2} (h : Row2 w g ps) (hg : g < w.heap.size) (hb : Below w.heap.size w w') : Row2 w' g ps :=
  fun i p hp => ⟨(hb.cell (p := ⟨g, i * 2, none⟩) hg).trans (h i p hp).1, (hb.cell (p := ⟨g, i * 2 + 1, none⟩) hg).trans (h i p hp).2⟩

theorem arc_any (r : Int) (w : World) : Calls Try.prog 12 #[.int .i64 r] w (GivesPE (ptE ⟨r, 0⟩ (arcS r)) (ptP ⟨r, 0⟩ (arcS r)) w) := by
  go_enter Try.func12, Try.ntmps12
  go_wp2_with fail
  (with_reducible refine (points_any ⟨r, 0⟩ (arcS r) w).mono ?_); rintro x0 w1 ⟨v, rfl, ho, hb⟩
  have HO := hid ho
  have HB := hid hb
  clear ho hb
  go_wp2_with fail
  go_ret2
  exact ⟨v, rfl, HO.out, HB.out⟩
theorem arc_good {r : Int} (h : 4 ≤ r ∧ r ≤ 30000) : ptE ⟨r, 0⟩ (arcS r) = 0 := by
  rw [ptE_eq _ _ (.inr rfl)]
  have hc : chkSeg (arcS r) true = 0 := by
    unfold chkSeg
    rw [if_neg (by simp), if_neg (by simp), if_neg (by simp [mean]), if_neg (fun k => k (wi4.2 (by simp only; omega))), if_neg (by simp)]
  rw [if_pos hc, if_pos (by simp only; omega)]
theorem arc_ps {r : Int} (h : 4 ≤ r ∧ r ≤ 30000) : ptP ⟨r, 0⟩ (arcS r) = (cuOf ⟨r, 0⟩ (arcS r)).pts := by
  unfold ptP replP
  rw [if_pos (arc_good h), if_neg (by simp)]
def arcL : List P2 := [⟨98, 18⟩, ⟨93, 37⟩, ⟨84, 55⟩, ⟨71, 71⟩, ⟨55, 84⟩, ⟨37, 93⟩, ⟨18, 98⟩, ⟨0, 100⟩]
theorem arc_e : ptE ⟨100, 0⟩ (arcS 100) = 0 := by decide +kernel
theorem arc_l : ptP ⟨100, 0⟩ (arcS 100) = arcL := by decide +kernel
theorem arcs_any (w : World) : Calls Try.prog 9 #[] w fun e w' => e = .returned (.bool true) ∧ Below w.heap.size w w' := by
  have h := arc_any 100 w
  rw [arc_e, arc_l] at h
  go_enter Try.func9, Try.ntmps9
  go_wp2_with fail
  (with_reducible refine h.mono ?_); rintro x0 w1 ⟨v, rfl, ho, hb⟩
  obtain ⟨g, c, rfl, -, -, hr⟩ := own_row ho (by decide)
  have HB := hid hb
  obtain ⟨c0, c1⟩ := hr 3 ⟨71, 71⟩ rfl
  rw [show arcL.length = 8 from rfl]
  clear h ho hb hr
  go_wp2_with fail
  go_ret
  exact ⟨rfl, HB.out⟩

end Go.Proofs.Ytcdedefhofkbhaa
