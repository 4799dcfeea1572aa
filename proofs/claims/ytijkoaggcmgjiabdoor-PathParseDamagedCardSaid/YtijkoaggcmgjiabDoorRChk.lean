/- What the reference's PathCheck returns: what Check does. -/
import Derived.Test.YtijkoaggcmgjiabDoorChk
namespace Go.Proofs.YtijkoaggcmgjiabDoor
open Go Go.RowKit
set_option linter.unusedVariables false

def Co (x y : Int) : Prop := (-32767 ≤ x ∧ x ≤ 32767) ∧ (-32767 ≤ y ∧ y ≤ 32767)
instance (x y : Int) : Decidable (Co x y) := inferInstanceAs (Decidable (_ ∧ _))
theorem chkSeg_eq (s : Sg) (o : Bool) : chkSeg s o = if s.k < 1 ∨ 4 < s.k then 14 else if o = false ∧ s.k ≠ 1 then 18
    else if (s.k ≠ 3 ∧ (s.u ≠ 0 ∨ s.v ≠ 0 ∨ s.w ≠ 0)) ∨ (s.k = 4 ∧ (s.x ≠ 0 ∨ s.y ≠ 0)) then 4
    else if ¬ (Co s.x s.y ∧ Co s.u s.v) then 3
    else if s.k = 3 ∧ (s.w < 16 ∨ 4096 < s.w) then 3 else 0 := by
  have e1 : (s ≠ mean s) ↔ ((s.k ≠ 3 ∧ (s.u ≠ 0 ∨ s.v ≠ 0 ∨ s.w ≠ 0)) ∨ (s.k = 4 ∧ (s.x ≠ 0 ∨ s.y ≠ 0))) := by
    obtain ⟨k, x, y, u, v, z⟩ := s
    unfold mean
    by_cases h3 : k = 3
    · subst h3; simp
    · by_cases h4 : k = 4
      · subst h4; simp; omega
      · simp [h3, h4]; omega
  have e2 : Wi 32767 [s.x, s.y, s.u, s.v] ↔ (Co s.x s.y ∧ Co s.u s.v) := by
    unfold Co
    rw [wi4]
    exact ⟨fun ⟨a, b, c, d⟩ => ⟨⟨a, b⟩, c, d⟩, fun ⟨⟨a, b⟩, c, d⟩ => ⟨a, b, c, d⟩⟩
  unfold chkSeg
  simp only [e1, e2]

theorem in_b (b : Bool) (x lo hi : Int) (w : World) (h : b = true ↔ (lo ≤ x ∧ x ≤ hi)) : Calls Tryd.prog 22 #[.int .i64 x, .int .i64 lo, .int .i64 hi] w fun e w' => e = .returned (.bool b) ∧ w = w' := by
  by_cases h1 : lo ≤ x
  · by_cases h2 : x ≤ hi
    · obtain rfl := h.2 ⟨h1, h2⟩
      clear h
      go_enter Tryd.func22, Tryd.ntmps22
      go_wp2
      go_ret
      exact ⟨rfl, rfl⟩
    · obtain rfl : b = false := by cases b; rfl; exact absurd (h.1 rfl).2 h2
      clear h
      go_enter Tryd.func22, Tryd.ntmps22
      go_wp2
      go_ret
      exact ⟨rfl, rfl⟩
  · obtain rfl : b = false := by cases b; rfl; exact absurd (h.1 rfl).1 h1
    clear h
    go_enter Tryd.func22, Tryd.ntmps22
    go_wp2
    go_ret
    exact ⟨rfl, rfl⟩

theorem coord_b (b : Bool) (x y : Int) (w : World) (h : b = true ↔ Co x y) : Calls Tryd.prog 23 #[pt x y] w fun e w' => e = .returned (.bool b) ∧ Below w.heap.size w w' := by
  unfold Co at h
  by_cases h1 : -32767 ≤ x ∧ x ≤ 32767
  · by_cases h2 : -32767 ≤ y ∧ y ≤ 32767
    · obtain rfl := h.2 ⟨h1, h2⟩
      clear h
      go_enter Tryd.func23, Tryd.ntmps23
      go_wp2_with (go_at_call 22; (with_reducible refine (in_b true _ _ _ _ (iff_of_true rfl (by assumption))).mono ?_); rintro e w' ⟨rfl, rfl⟩)
      go_ret
      exact ⟨rfl, below_alloc (Below.refl _ w) _⟩
    · obtain rfl : b = false := by cases b; rfl; exact absurd (h.1 rfl).2 h2
      clear h
      go_enter Tryd.func23, Tryd.ntmps23
      go_wp2_with fail
      (with_reducible refine (in_b true _ _ _ _ (iff_of_true rfl h1)).mono ?_); rintro e w' ⟨rfl, rfl⟩
      go_wp2_with fail
      (with_reducible refine (in_b false _ _ _ _ (iff_of_false Bool.false_ne_true h2)).mono ?_); rintro e w' ⟨rfl, rfl⟩
      go_wp2_with fail
      go_ret
      exact ⟨rfl, below_alloc (Below.refl _ w) _⟩
  · obtain rfl : b = false := by cases b; rfl; exact absurd (h.1 rfl).1 h1
    clear h
    go_enter Tryd.func23, Tryd.ntmps23
    go_wp2_with fail
    (with_reducible refine (in_b false _ _ _ _ (iff_of_false Bool.false_ne_true h1)).mono ?_); rintro e w' ⟨rfl, rfl⟩
    go_wp2_with fail
    go_ret
    exact ⟨rfl, below_alloc (Below.refl _ w) _⟩

theorem neT {a b : Int} (h : a ≠ b) : (a != b) = true := by simp [h]
theorem eqF {a b : Int} (h : a ≠ b) : (a == b) = false := by simp [h]
theorem eqT (a : Int) : (a == a) = true := by simp
theorem neF (a : Int) : (a != a) = false := by simp

theorem rs_kind (k x y u v z : Int) (f : Bool) (w : World) (h : ¬ (1 ≤ k ∧ k ≤ 4)) :
    Calls Tryd.prog 13 #[seg ⟨k, x, y, u, v, z⟩, .bool f] w fun e w' => e = .returned (.int .i64 14) ∧ Below w.heap.size w w' := by
  have HB := hid (below_alloc (Below.refl _ w) (.cells (cel ⟨k, x, y, u, v, z⟩) 38))
  have HV := hid (Var.new w (cel ⟨k, x, y, u, v, z⟩) 38 _ rfl)
  go_enter Tryd.func13, Tryd.ntmps13
  go_wp2_with fail
  (with_reducible refine (in_b false _ _ _ _ (iff_of_false Bool.false_ne_true h)).mono ?_); rintro x0 w1 ⟨rfl, rfl⟩
  go_wp2_with fail
  go_ret
  exact ⟨rfl, HB.out⟩

theorem rs_order (k x y u v z : Int) (w : World) (hk : 1 ≤ k ∧ k ≤ 4) (h : k ≠ 1) :
    Calls Tryd.prog 13 #[seg ⟨k, x, y, u, v, z⟩, .bool true] w fun e w' => e = .returned (.int .i64 18) ∧ Below w.heap.size w w' := by
  have e1 := neT h
  have HB := hid (below_alloc (Below.refl _ w) (.cells (cel ⟨k, x, y, u, v, z⟩) 38))
  have HV := hid (Var.new w (cel ⟨k, x, y, u, v, z⟩) 38 _ rfl)
  go_enter Tryd.func13, Tryd.ntmps13
  go_wp2_with fail
  (with_reducible refine (in_b true _ _ _ _ (iff_of_true rfl hk)).mono ?_); rintro x0 w1 ⟨rfl, rfl⟩
  go_wp2_with fail
  go_ret
  exact ⟨rfl, HB.out⟩

theorem rs_F1f (k x y u v z : Int) (w : World) (hk : 1 ≤ k ∧ k ≤ 4) (h3 : k ≠ 3) (hu : u ≠ 0) :
    Calls Tryd.prog 13 #[seg ⟨k, x, y, u, v, z⟩, .bool false] w fun e w' => e = .returned (.int .i64 4) ∧ Below w.heap.size w w' := by
  have e3 := neT h3
  have eu := neT hu
  have HB := hid (below_alloc (Below.refl _ w) (.cells (cel ⟨k, x, y, u, v, z⟩) 38))
  have HV := hid (Var.new w (cel ⟨k, x, y, u, v, z⟩) 38 _ rfl)
  go_enter Tryd.func13, Tryd.ntmps13
  go_wp2_with fail
  (with_reducible refine (in_b true _ _ _ _ (iff_of_true rfl hk)).mono ?_); rintro x0 w1 ⟨rfl, rfl⟩
  go_wp2_with fail
  go_ret
  exact ⟨rfl, HB.out⟩

theorem rs_F2f (k x y v z : Int) (w : World) (hk : 1 ≤ k ∧ k ≤ 4) (h3 : k ≠ 3) (hv : v ≠ 0) :
    Calls Tryd.prog 13 #[seg ⟨k, x, y, 0, v, z⟩, .bool false] w fun e w' => e = .returned (.int .i64 4) ∧ Below w.heap.size w w' := by
  have e3 := neT h3
  have ev := neT hv
  have HB := hid (below_alloc (Below.refl _ w) (.cells (cel ⟨k, x, y, 0, v, z⟩) 38))
  have HV := hid (Var.new w (cel ⟨k, x, y, 0, v, z⟩) 38 _ rfl)
  go_enter Tryd.func13, Tryd.ntmps13
  go_wp2_with fail
  (with_reducible refine (in_b true _ _ _ _ (iff_of_true rfl hk)).mono ?_); rintro x0 w1 ⟨rfl, rfl⟩
  go_wp2_with fail
  go_ret
  exact ⟨rfl, HB.out⟩

theorem rs_F3f (k x y z : Int) (w : World) (hk : 1 ≤ k ∧ k ≤ 4) (h3 : k ≠ 3) (hz : z ≠ 0) :
    Calls Tryd.prog 13 #[seg ⟨k, x, y, 0, 0, z⟩, .bool false] w fun e w' => e = .returned (.int .i64 4) ∧ Below w.heap.size w w' := by
  have e3 := neT h3
  have ez := neT hz
  have HB := hid (below_alloc (Below.refl _ w) (.cells (cel ⟨k, x, y, 0, 0, z⟩) 38))
  have HV := hid (Var.new w (cel ⟨k, x, y, 0, 0, z⟩) 38 _ rfl)
  go_enter Tryd.func13, Tryd.ntmps13
  go_wp2_with fail
  (with_reducible refine (in_b true _ _ _ _ (iff_of_true rfl hk)).mono ?_); rintro x0 w1 ⟨rfl, rfl⟩
  go_wp2_with fail
  go_ret
  exact ⟨rfl, HB.out⟩

theorem rs_G3af (k x y : Int) (w : World) (hk : 1 ≤ k ∧ k ≤ 4) (h3 : k ≠ 3) (h4 : k ≠ 4) (hc : ¬ Co x y) :
    Calls Tryd.prog 13 #[seg ⟨k, x, y, 0, 0, 0⟩, .bool false] w fun e w' => e = .returned (.int .i64 3) ∧ Below w.heap.size w w' := by
  have e3 := neT h3
  have e4 := eqF h4
  have HB := hid (below_alloc (Below.refl _ w) (.cells (cel ⟨k, x, y, 0, 0, 0⟩) 38))
  have HV := hid (Var.new w (cel ⟨k, x, y, 0, 0, 0⟩) 38 _ rfl)
  go_enter Tryd.func13, Tryd.ntmps13
  go_wp2_with fail
  (with_reducible refine (in_b true _ _ _ _ (iff_of_true rfl hk)).mono ?_); rintro x0 w1 ⟨rfl, rfl⟩
  go_wp2_with fail
  (with_reducible refine (coord_b false _ _ _ (iff_of_false Bool.false_ne_true hc)).mono ?_); rintro x0 w2 ⟨rfl, hb⟩
  replace HB := hid (below_next HB.out hb)
  replace HV := hid (HV.out.next hb)
  clear hb
  obtain ⟨p0, p1, p2, p3, p4, p5, pf⟩ := HV.out.read6
  go_wp2_with fail
  go_ret
  exact ⟨rfl, HB.out⟩

theorem rs_G3bf (k x y : Int) (w : World) (hk : 1 ≤ k ∧ k ≤ 4) (h3 : k ≠ 3) (h4 : k ≠ 4) (hc : Co x y) :
    Calls Tryd.prog 13 #[seg ⟨k, x, y, 0, 0, 0⟩, .bool false] w fun e w' => e = .returned (.int .i64 0) ∧ Below w.heap.size w w' := by
  have e3 := neT h3
  have e4 := eqF h4
  have e3f := eqF h3
  have HB := hid (below_alloc (Below.refl _ w) (.cells (cel ⟨k, x, y, 0, 0, 0⟩) 38))
  have HV := hid (Var.new w (cel ⟨k, x, y, 0, 0, 0⟩) 38 _ rfl)
  go_enter Tryd.func13, Tryd.ntmps13
  go_wp2_with fail
  (with_reducible refine (in_b true _ _ _ _ (iff_of_true rfl hk)).mono ?_); rintro x0 w1 ⟨rfl, rfl⟩
  go_wp2_with fail
  (with_reducible refine (coord_b true _ _ _ (iff_of_true rfl hc)).mono ?_); rintro x0 w2 ⟨rfl, hb⟩
  replace HB := hid (below_next HB.out hb)
  replace HV := hid (HV.out.next hb)
  clear hb
  obtain ⟨p0, p1, p2, p3, p4, p5, pf⟩ := HV.out.read6
  go_wp2_with fail
  clear p0 p1 p2 p3 p4 p5 pf
  (with_reducible refine (coord_b true _ _ _ (iff_of_true rfl (by unfold Co; omega))).mono ?_); rintro x0 w3 ⟨rfl, hb⟩
  replace HB := hid (below_next HB.out hb)
  replace HV := hid (HV.out.next hb)
  clear hb
  obtain ⟨p0, p1, p2, p3, p4, p5, pf⟩ := HV.out.read6
  go_wp2_with fail
  go_ret
  exact ⟨rfl, HB.out⟩

theorem rs_F1t (k x y u v z : Int) (w : World) (hk : 1 ≤ k ∧ k ≤ 4) (h3 : k ≠ 3) (hu : u ≠ 0) (h1 : k = 1) :
    Calls Tryd.prog 13 #[seg ⟨k, x, y, u, v, z⟩, .bool true] w fun e w' => e = .returned (.int .i64 4) ∧ Below w.heap.size w w' := by
  have e1 : (k != 1) = false := by rw [h1]; rfl
  clear h1
  have e3 := neT h3
  have eu := neT hu
  have HB := hid (below_alloc (Below.refl _ w) (.cells (cel ⟨k, x, y, u, v, z⟩) 38))
  have HV := hid (Var.new w (cel ⟨k, x, y, u, v, z⟩) 38 _ rfl)
  go_enter Tryd.func13, Tryd.ntmps13
  go_wp2_with fail
  (with_reducible refine (in_b true _ _ _ _ (iff_of_true rfl hk)).mono ?_); rintro x0 w1 ⟨rfl, rfl⟩
  go_wp2_with fail
  go_ret
  exact ⟨rfl, HB.out⟩

theorem rs_F2t (k x y v z : Int) (w : World) (hk : 1 ≤ k ∧ k ≤ 4) (h3 : k ≠ 3) (hv : v ≠ 0) (h1 : k = 1) :
    Calls Tryd.prog 13 #[seg ⟨k, x, y, 0, v, z⟩, .bool true] w fun e w' => e = .returned (.int .i64 4) ∧ Below w.heap.size w w' := by
  have e1 : (k != 1) = false := by rw [h1]; rfl
  clear h1
  have e3 := neT h3
  have ev := neT hv
  have HB := hid (below_alloc (Below.refl _ w) (.cells (cel ⟨k, x, y, 0, v, z⟩) 38))
  have HV := hid (Var.new w (cel ⟨k, x, y, 0, v, z⟩) 38 _ rfl)
  go_enter Tryd.func13, Tryd.ntmps13
  go_wp2_with fail
  (with_reducible refine (in_b true _ _ _ _ (iff_of_true rfl hk)).mono ?_); rintro x0 w1 ⟨rfl, rfl⟩
  go_wp2_with fail
  go_ret
  exact ⟨rfl, HB.out⟩

theorem rs_F3t (k x y z : Int) (w : World) (hk : 1 ≤ k ∧ k ≤ 4) (h3 : k ≠ 3) (hz : z ≠ 0) (h1 : k = 1) :
    Calls Tryd.prog 13 #[seg ⟨k, x, y, 0, 0, z⟩, .bool true] w fun e w' => e = .returned (.int .i64 4) ∧ Below w.heap.size w w' := by
  have e1 : (k != 1) = false := by rw [h1]; rfl
  clear h1
  have e3 := neT h3
  have ez := neT hz
  have HB := hid (below_alloc (Below.refl _ w) (.cells (cel ⟨k, x, y, 0, 0, z⟩) 38))
  have HV := hid (Var.new w (cel ⟨k, x, y, 0, 0, z⟩) 38 _ rfl)
  go_enter Tryd.func13, Tryd.ntmps13
  go_wp2_with fail
  (with_reducible refine (in_b true _ _ _ _ (iff_of_true rfl hk)).mono ?_); rintro x0 w1 ⟨rfl, rfl⟩
  go_wp2_with fail
  go_ret
  exact ⟨rfl, HB.out⟩

theorem rs_G3at (k x y : Int) (w : World) (hk : 1 ≤ k ∧ k ≤ 4) (h3 : k ≠ 3) (h4 : k ≠ 4) (hc : ¬ Co x y) (h1 : k = 1) :
    Calls Tryd.prog 13 #[seg ⟨k, x, y, 0, 0, 0⟩, .bool true] w fun e w' => e = .returned (.int .i64 3) ∧ Below w.heap.size w w' := by
  have e1 : (k != 1) = false := by rw [h1]; rfl
  clear h1
  have e3 := neT h3
  have e4 := eqF h4
  have HB := hid (below_alloc (Below.refl _ w) (.cells (cel ⟨k, x, y, 0, 0, 0⟩) 38))
  have HV := hid (Var.new w (cel ⟨k, x, y, 0, 0, 0⟩) 38 _ rfl)
  go_enter Tryd.func13, Tryd.ntmps13
  go_wp2_with fail
  (with_reducible refine (in_b true _ _ _ _ (iff_of_true rfl hk)).mono ?_); rintro x0 w1 ⟨rfl, rfl⟩
  go_wp2_with fail
  (with_reducible refine (coord_b false _ _ _ (iff_of_false Bool.false_ne_true hc)).mono ?_); rintro x0 w2 ⟨rfl, hb⟩
  replace HB := hid (below_next HB.out hb)
  replace HV := hid (HV.out.next hb)
  clear hb
  obtain ⟨p0, p1, p2, p3, p4, p5, pf⟩ := HV.out.read6
  go_wp2_with fail
  go_ret
  exact ⟨rfl, HB.out⟩

theorem rs_G3bt (k x y : Int) (w : World) (hk : 1 ≤ k ∧ k ≤ 4) (h3 : k ≠ 3) (h4 : k ≠ 4) (hc : Co x y) (h1 : k = 1) :
    Calls Tryd.prog 13 #[seg ⟨k, x, y, 0, 0, 0⟩, .bool true] w fun e w' => e = .returned (.int .i64 0) ∧ Below w.heap.size w w' := by
  have e1 : (k != 1) = false := by rw [h1]; rfl
  clear h1
  have e3 := neT h3
  have e4 := eqF h4
  have e3f := eqF h3
  have HB := hid (below_alloc (Below.refl _ w) (.cells (cel ⟨k, x, y, 0, 0, 0⟩) 38))
  have HV := hid (Var.new w (cel ⟨k, x, y, 0, 0, 0⟩) 38 _ rfl)
  go_enter Tryd.func13, Tryd.ntmps13
  go_wp2_with fail
  (with_reducible refine (in_b true _ _ _ _ (iff_of_true rfl hk)).mono ?_); rintro x0 w1 ⟨rfl, rfl⟩
  go_wp2_with fail
  (with_reducible refine (coord_b true _ _ _ (iff_of_true rfl hc)).mono ?_); rintro x0 w2 ⟨rfl, hb⟩
  replace HB := hid (below_next HB.out hb)
  replace HV := hid (HV.out.next hb)
  clear hb
  obtain ⟨p0, p1, p2, p3, p4, p5, pf⟩ := HV.out.read6
  go_wp2_with fail
  clear p0 p1 p2 p3 p4 p5 pf
  (with_reducible refine (coord_b true _ _ _ (iff_of_true rfl (by unfold Co; omega))).mono ?_); rintro x0 w3 ⟨rfl, hb⟩
  replace HB := hid (below_next HB.out hb)
  replace HV := hid (HV.out.next hb)
  clear hb
  obtain ⟨p0, p1, p2, p3, p4, p5, pf⟩ := HV.out.read6
  go_wp2_with fail
  go_ret
  exact ⟨rfl, HB.out⟩

theorem rs_F4 (x y : Int) (w : World) (hx : x ≠ 0) :
    Calls Tryd.prog 13 #[seg ⟨4, x, y, 0, 0, 0⟩, .bool false] w fun e w' => e = .returned (.int .i64 4) ∧ Below w.heap.size w w' := by
  have ex := neT hx
  have HB := hid (below_alloc (Below.refl _ w) (.cells (cel ⟨4, x, y, 0, 0, 0⟩) 38))
  have HV := hid (Var.new w (cel ⟨4, x, y, 0, 0, 0⟩) 38 _ rfl)
  go_enter Tryd.func13, Tryd.ntmps13
  go_wp2_with fail
  (with_reducible refine (in_b true _ _ _ _ (iff_of_true rfl (by omega))).mono ?_); rintro x0 w1 ⟨rfl, rfl⟩
  go_wp2_with fail
  go_ret
  exact ⟨rfl, HB.out⟩

theorem rs_F5 (y : Int) (w : World) (hy : y ≠ 0) :
    Calls Tryd.prog 13 #[seg ⟨4, 0, y, 0, 0, 0⟩, .bool false] w fun e w' => e = .returned (.int .i64 4) ∧ Below w.heap.size w w' := by
  have ey := neT hy
  have HB := hid (below_alloc (Below.refl _ w) (.cells (cel ⟨4, 0, y, 0, 0, 0⟩) 38))
  have HV := hid (Var.new w (cel ⟨4, 0, y, 0, 0, 0⟩) 38 _ rfl)
  go_enter Tryd.func13, Tryd.ntmps13
  go_wp2_with fail
  (with_reducible refine (in_b true _ _ _ _ (iff_of_true rfl (by omega))).mono ?_); rintro x0 w1 ⟨rfl, rfl⟩
  go_wp2_with fail
  go_ret
  exact ⟨rfl, HB.out⟩

theorem rs_G2  (w : World)  :
    Calls Tryd.prog 13 #[seg ⟨4, 0, 0, 0, 0, 0⟩, .bool false] w fun e w' => e = .returned (.int .i64 0) ∧ Below w.heap.size w w' := by
  have HB := hid (below_alloc (Below.refl _ w) (.cells (cel ⟨4, 0, 0, 0, 0, 0⟩) 38))
  have HV := hid (Var.new w (cel ⟨4, 0, 0, 0, 0, 0⟩) 38 _ rfl)
  go_enter Tryd.func13, Tryd.ntmps13
  go_wp2_with fail
  (with_reducible refine (in_b true _ _ _ _ (iff_of_true rfl (by omega))).mono ?_); rintro x0 w1 ⟨rfl, rfl⟩
  go_wp2_with fail
  (with_reducible refine (coord_b true _ _ _ (iff_of_true rfl (by unfold Co; omega))).mono ?_); rintro x0 w2 ⟨rfl, hb⟩
  replace HB := hid (below_next HB.out hb)
  replace HV := hid (HV.out.next hb)
  clear hb
  obtain ⟨p0, p1, p2, p3, p4, p5, pf⟩ := HV.out.read6
  go_wp2_with fail
  clear p0 p1 p2 p3 p4 p5 pf
  (with_reducible refine (coord_b true _ _ _ (iff_of_true rfl (by unfold Co; omega))).mono ?_); rintro x0 w3 ⟨rfl, hb⟩
  replace HB := hid (below_next HB.out hb)
  replace HV := hid (HV.out.next hb)
  clear hb
  obtain ⟨p0, p1, p2, p3, p4, p5, pf⟩ := HV.out.read6
  go_wp2_with fail
  go_ret
  exact ⟨rfl, HB.out⟩

theorem rs_C1 (x y u v z : Int) (w : World) (hc : ¬ Co x y) :
    Calls Tryd.prog 13 #[seg ⟨3, x, y, u, v, z⟩, .bool false] w fun e w' => e = .returned (.int .i64 3) ∧ Below w.heap.size w w' := by
  have HB := hid (below_alloc (Below.refl _ w) (.cells (cel ⟨3, x, y, u, v, z⟩) 38))
  have HV := hid (Var.new w (cel ⟨3, x, y, u, v, z⟩) 38 _ rfl)
  go_enter Tryd.func13, Tryd.ntmps13
  go_wp2_with fail
  (with_reducible refine (in_b true _ _ _ _ (iff_of_true rfl (by omega))).mono ?_); rintro x0 w1 ⟨rfl, rfl⟩
  go_wp2_with fail
  (with_reducible refine (coord_b false _ _ _ (iff_of_false Bool.false_ne_true hc)).mono ?_); rintro x0 w2 ⟨rfl, hb⟩
  replace HB := hid (below_next HB.out hb)
  replace HV := hid (HV.out.next hb)
  clear hb
  obtain ⟨p0, p1, p2, p3, p4, p5, pf⟩ := HV.out.read6
  go_wp2_with fail
  go_ret
  exact ⟨rfl, HB.out⟩

theorem rs_C2 (x y u v z : Int) (w : World) (hc : Co x y) (hd : ¬ Co u v) :
    Calls Tryd.prog 13 #[seg ⟨3, x, y, u, v, z⟩, .bool false] w fun e w' => e = .returned (.int .i64 3) ∧ Below w.heap.size w w' := by
  have HB := hid (below_alloc (Below.refl _ w) (.cells (cel ⟨3, x, y, u, v, z⟩) 38))
  have HV := hid (Var.new w (cel ⟨3, x, y, u, v, z⟩) 38 _ rfl)
  go_enter Tryd.func13, Tryd.ntmps13
  go_wp2_with fail
  (with_reducible refine (in_b true _ _ _ _ (iff_of_true rfl (by omega))).mono ?_); rintro x0 w1 ⟨rfl, rfl⟩
  go_wp2_with fail
  (with_reducible refine (coord_b true _ _ _ (iff_of_true rfl hc)).mono ?_); rintro x0 w2 ⟨rfl, hb⟩
  replace HB := hid (below_next HB.out hb)
  replace HV := hid (HV.out.next hb)
  clear hb
  obtain ⟨p0, p1, p2, p3, p4, p5, pf⟩ := HV.out.read6
  go_wp2_with fail
  clear p0 p1 p2 p3 p4 p5 pf
  (with_reducible refine (coord_b false _ _ _ (iff_of_false Bool.false_ne_true hd)).mono ?_); rintro x0 w3 ⟨rfl, hb⟩
  replace HB := hid (below_next HB.out hb)
  replace HV := hid (HV.out.next hb)
  clear hb
  obtain ⟨p0, p1, p2, p3, p4, p5, pf⟩ := HV.out.read6
  go_wp2_with fail
  go_ret
  exact ⟨rfl, HB.out⟩

theorem rs_C3 (x y u v z : Int) (w : World) (hc : Co x y) (hd : Co u v) (hz : ¬ (16 ≤ z ∧ z ≤ 4096)) :
    Calls Tryd.prog 13 #[seg ⟨3, x, y, u, v, z⟩, .bool false] w fun e w' => e = .returned (.int .i64 3) ∧ Below w.heap.size w w' := by
  have HB := hid (below_alloc (Below.refl _ w) (.cells (cel ⟨3, x, y, u, v, z⟩) 38))
  have HV := hid (Var.new w (cel ⟨3, x, y, u, v, z⟩) 38 _ rfl)
  go_enter Tryd.func13, Tryd.ntmps13
  go_wp2_with fail
  (with_reducible refine (in_b true _ _ _ _ (iff_of_true rfl (by omega))).mono ?_); rintro x0 w1 ⟨rfl, rfl⟩
  go_wp2_with fail
  (with_reducible refine (coord_b true _ _ _ (iff_of_true rfl hc)).mono ?_); rintro x0 w2 ⟨rfl, hb⟩
  replace HB := hid (below_next HB.out hb)
  replace HV := hid (HV.out.next hb)
  clear hb
  obtain ⟨p0, p1, p2, p3, p4, p5, pf⟩ := HV.out.read6
  go_wp2_with fail
  clear p0 p1 p2 p3 p4 p5 pf
  (with_reducible refine (coord_b true _ _ _ (iff_of_true rfl hd)).mono ?_); rintro x0 w3 ⟨rfl, hb⟩
  replace HB := hid (below_next HB.out hb)
  replace HV := hid (HV.out.next hb)
  clear hb
  obtain ⟨p0, p1, p2, p3, p4, p5, pf⟩ := HV.out.read6
  go_wp2_with fail
  (with_reducible refine (in_b false _ _ _ _ (iff_of_false Bool.false_ne_true hz)).mono ?_); rintro x0 w4 ⟨rfl, rfl⟩
  go_wp2_with fail
  go_ret
  exact ⟨rfl, HB.out⟩

theorem rs_C4 (x y u v z : Int) (w : World) (hc : Co x y) (hd : Co u v) (hz : 16 ≤ z ∧ z ≤ 4096) :
    Calls Tryd.prog 13 #[seg ⟨3, x, y, u, v, z⟩, .bool false] w fun e w' => e = .returned (.int .i64 0) ∧ Below w.heap.size w w' := by
  have HB := hid (below_alloc (Below.refl _ w) (.cells (cel ⟨3, x, y, u, v, z⟩) 38))
  have HV := hid (Var.new w (cel ⟨3, x, y, u, v, z⟩) 38 _ rfl)
  go_enter Tryd.func13, Tryd.ntmps13
  go_wp2_with fail
  (with_reducible refine (in_b true _ _ _ _ (iff_of_true rfl (by omega))).mono ?_); rintro x0 w1 ⟨rfl, rfl⟩
  go_wp2_with fail
  (with_reducible refine (coord_b true _ _ _ (iff_of_true rfl hc)).mono ?_); rintro x0 w2 ⟨rfl, hb⟩
  replace HB := hid (below_next HB.out hb)
  replace HV := hid (HV.out.next hb)
  clear hb
  obtain ⟨p0, p1, p2, p3, p4, p5, pf⟩ := HV.out.read6
  go_wp2_with fail
  clear p0 p1 p2 p3 p4 p5 pf
  (with_reducible refine (coord_b true _ _ _ (iff_of_true rfl hd)).mono ?_); rintro x0 w3 ⟨rfl, hb⟩
  replace HB := hid (below_next HB.out hb)
  replace HV := hid (HV.out.next hb)
  clear hb
  obtain ⟨p0, p1, p2, p3, p4, p5, pf⟩ := HV.out.read6
  go_wp2_with fail
  (with_reducible refine (in_b true _ _ _ _ (iff_of_true rfl hz)).mono ?_); rintro x0 w4 ⟨rfl, rfl⟩
  go_wp2_with fail
  go_ret
  exact ⟨rfl, HB.out⟩

theorem rseg_any (s : Sg) (first : Bool) (w : World) : Calls Tryd.prog 13 #[seg s, .bool first] w fun e w' => e = .returned (.int .i64 (chkSeg s (!first))) ∧ Below w.heap.size w w' := by
  rw [chkSeg_eq]
  obtain ⟨k, x, y, u, v, z⟩ := s
  simp only
  by_cases hk : 1 ≤ k ∧ k ≤ 4
  case neg => rw [if_pos (by omega)]; exact rs_kind k x y u v z first w hk
  rw [if_neg (by omega)]
  have hz : Co 0 0 := by unfold Co; omega
  cases first
  case true =>
    by_cases h1 : k = 1
    case neg => rw [if_pos ⟨rfl, h1⟩]; exact rs_order k x y u v z w hk h1
    rw [if_neg (fun h => h.2 h1)]
    have h3 : k ≠ 3 := by omega
    have h4 : k ≠ 4 := by omega
    by_cases hu : u = 0
    case neg => rw [if_pos (.inl ⟨h3, .inl hu⟩)]; exact rs_F1t k x y u v z w hk h3 hu h1
    subst hu
    by_cases hv : v = 0
    case neg => rw [if_pos (.inl ⟨h3, .inr (.inl hv)⟩)]; exact rs_F2t k x y v z w hk h3 hv h1
    subst hv
    by_cases hzz : z = 0
    case neg => rw [if_pos (.inl ⟨h3, .inr (.inr hzz)⟩)]; exact rs_F3t k x y z w hk h3 hzz h1
    subst hzz
    rw [if_neg (by simp [h4])]
    by_cases hc : Co x y
    case neg => rw [if_pos (fun h => hc h.1)]; exact rs_G3at k x y w hk h3 h4 hc h1
    rw [if_neg (fun h => h ⟨hc, hz⟩), if_neg (fun h => h3 h.1)]
    exact rs_G3bt k x y w hk h3 h4 hc h1
  case false =>
    rw [if_neg (by simp)]
    by_cases h3 : k = 3
    case pos =>
      subst h3
      rw [if_neg (by omega)]
      by_cases hc : Co x y
      case neg => rw [if_pos (fun h => hc h.1)]; exact rs_C1 x y u v z w hc
      by_cases hd : Co u v
      case neg => rw [if_pos (fun h => hd h.2)]; exact rs_C2 x y u v z w hc hd
      rw [if_neg (fun h => h ⟨hc, hd⟩)]
      by_cases hzz : 16 ≤ z ∧ z ≤ 4096
      · rw [if_neg (by omega)]; exact rs_C4 x y u v z w hc hd hzz
      · rw [if_pos (by omega)]; exact rs_C3 x y u v z w hc hd hzz
    by_cases hu : u = 0
    case neg => rw [if_pos (.inl ⟨h3, .inl hu⟩)]; exact rs_F1f k x y u v z w hk h3 hu
    subst hu
    by_cases hv : v = 0
    case neg => rw [if_pos (.inl ⟨h3, .inr (.inl hv)⟩)]; exact rs_F2f k x y v z w hk h3 hv
    subst hv
    by_cases hzz : z = 0
    case neg => rw [if_pos (.inl ⟨h3, .inr (.inr hzz)⟩)]; exact rs_F3f k x y z w hk h3 hzz
    subst hzz
    by_cases h4 : k = 4
    case pos =>
      subst h4
      by_cases hx : x = 0
      case neg => rw [if_pos (.inr ⟨rfl, .inl hx⟩)]; exact rs_F4 x y w hx
      subst hx
      by_cases hy : y = 0
      case neg => rw [if_pos (.inr ⟨rfl, .inr hy⟩)]; exact rs_F5 y w hy
      subst hy
      rw [if_neg (by simp), if_neg (fun h => h ⟨hz, hz⟩), if_neg (by omega)]
      exact rs_G2 w
    rw [if_neg (by simp [h4])]
    by_cases hc : Co x y
    case neg => rw [if_pos (fun h => hc h.1)]; exact rs_G3af k x y w hk h3 h4 hc
    rw [if_neg (fun h => h ⟨hc, hz⟩), if_neg (fun h => h3 h.1)]
    exact rs_G3bf k x y w hk h3 h4 hc

end Go.Proofs.YtijkoaggcmgjiabDoor
