/- What isNear, isFlatAt and division of a curve return. -/
import Derived.Test.YtcdedefhofkbhaaArc
namespace Go.Proofs.Ytcdedefhofkbhaa
open Go Go.RowKit
set_option linter.unusedVariables false
set_option linter.unusedSimpArgs false

theorem btw_is {m a b : Int} {v : Bool} (h : btw m a b = v) (w : World) (hm : -65536 ≤ m ∧ m ≤ 65536) (ha : -65536 ≤ a ∧ a ≤ 65536) (hb : -65536 ≤ b ∧ b ≤ 65536) :
    Calls Try.prog 57 #[.int .i64 m, .int .i64 a, .int .i64 b] w fun e w' => e = .returned (.bool v) ∧ w = w' := by
  subst h; exact btw_any m a b w hm ha hb
theorem mulb {x y X Y : Int} (hx : -X ≤ x ∧ x ≤ X) (hy : -Y ≤ y ∧ y ≤ Y) : -(X * Y) ≤ x * y ∧ x * y ≤ X * Y := by
  have h1 := Int.mul_nonneg (a := X - x) (b := Y - y) (by omega) (by omega)
  have h2 := Int.mul_nonneg (a := X + x) (b := Y + y) (by omega) (by omega)
  have h3 := Int.mul_nonneg (a := X - x) (b := Y + y) (by omega) (by omega)
  have h4 := Int.mul_nonneg (a := X + x) (b := Y - y) (by omega) (by omega)
  simp only [Int.sub_mul, Int.mul_sub, Int.add_mul, Int.mul_add] at h1 h2 h3 h4
  omega
theorem In3.b {p : P2} (h : In3 p) : (-65536 ≤ p.x ∧ p.x ≤ 65536) ∧ (-65536 ≤ p.y ∧ p.y ≤ 65536) := by
  obtain ⟨⟨h1, h2⟩, ⟨h3, h4⟩⟩ := h; exact ⟨⟨by omega, by omega⟩, ⟨by omega, by omega⟩⟩

theorem near_x (m a b : P2) (w : World) (hm : In3 m) (ha : In3 a) (hb : In3 b) (hx : btw m.x a.x b.x = false) :
    Calls Try.prog 56 #[ptv m, ptv a, ptv b] w fun e w' => e = .returned (.bool false) ∧ Below w.heap.size w w' := by
  have HX := hid hx
  clear hx
  obtain ⟨W, hW⟩ : ∃ W, W = ((w.alloc (.cells (pcel m) 23)).alloc (.cells (pcel a) 23)).alloc (.cells (pcel b) 23) := ⟨_, rfl⟩
  have HM := hid (show Var W w.heap.size (pcel m) 23 by rw [hW]; exact ((Var.new w _ _ _ rfl).alloc _).alloc _)
  have HA := hid (show Var W (w.heap.size + 1) (pcel a) 23 by rw [hW]; exact (Var.new (w.alloc _) _ _ _ (by simp)).alloc _)
  have HD := hid (show Var W (w.heap.size + 1 + 1) (pcel b) 23 by rw [hW]; exact Var.new ((w.alloc _).alloc _) _ _ _ (by simp))
  have HB := hid (show Below w.heap.size w W by rw [hW]; exact below_alloc (below_alloc (below_alloc (Below.refl _ w) _) _) _)
  have BX := fun v w (h : btw m.x a.x b.x = v) => hid (btw_is h w hm.b.1 ha.b.1 hb.b.1)
  have BY := fun v w (h : btw m.y a.y b.y = v) => hid (btw_is h w hm.b.2 ha.b.2 hb.b.2)
  go_enter Try.func56, Try.ntmps56
  go_upto_region 1 with fail
  rw [← hW]
  clear hW
  obtain ⟨m0, m1, mf⟩ := HM.out.read2
  obtain ⟨a0, a1, af⟩ := HA.out.read2
  obtain ⟨b0, b1, bf⟩ := HD.out.read2
  go_wp2_with fail
  (with_reducible refine (BX _ _ HX.out).out.mono ?_); rintro e w1 ⟨rfl, rfl⟩
  go_wp2_with fail
  go_ret
  exact ⟨rfl, HB.out⟩

theorem near_y (m a b : P2) (w : World) (hm : In3 m) (ha : In3 a) (hb : In3 b) (hx : btw m.x a.x b.x = true) (hy : btw m.y a.y b.y = false) :
    Calls Try.prog 56 #[ptv m, ptv a, ptv b] w fun e w' => e = .returned (.bool false) ∧ Below w.heap.size w w' := by
  have HX := hid hx
  have HY := hid hy
  clear hx hy
  obtain ⟨W, hW⟩ : ∃ W, W = ((w.alloc (.cells (pcel m) 23)).alloc (.cells (pcel a) 23)).alloc (.cells (pcel b) 23) := ⟨_, rfl⟩
  have HM := hid (show Var W w.heap.size (pcel m) 23 by rw [hW]; exact ((Var.new w _ _ _ rfl).alloc _).alloc _)
  have HA := hid (show Var W (w.heap.size + 1) (pcel a) 23 by rw [hW]; exact (Var.new (w.alloc _) _ _ _ (by simp)).alloc _)
  have HD := hid (show Var W (w.heap.size + 1 + 1) (pcel b) 23 by rw [hW]; exact Var.new ((w.alloc _).alloc _) _ _ _ (by simp))
  have HB := hid (show Below w.heap.size w W by rw [hW]; exact below_alloc (below_alloc (below_alloc (Below.refl _ w) _) _) _)
  have BX := fun v w (h : btw m.x a.x b.x = v) => hid (btw_is h w hm.b.1 ha.b.1 hb.b.1)
  have BY := fun v w (h : btw m.y a.y b.y = v) => hid (btw_is h w hm.b.2 ha.b.2 hb.b.2)
  go_enter Try.func56, Try.ntmps56
  go_upto_region 1 with fail
  rw [← hW]
  clear hW
  obtain ⟨m0, m1, mf⟩ := HM.out.read2
  obtain ⟨a0, a1, af⟩ := HA.out.read2
  obtain ⟨b0, b1, bf⟩ := HD.out.read2
  go_wp2_with fail
  (with_reducible refine (BX _ _ HX.out).out.mono ?_); rintro e w1 ⟨rfl, rfl⟩
  go_wp2_with fail
  (with_reducible refine (BY _ _ HY.out).out.mono ?_); rintro e w1 ⟨rfl, rfl⟩
  go_wp2_with fail
  go_ret
  exact ⟨rfl, HB.out⟩

set_option maxHeartbeats 1600000 in
set_option maxRecDepth 100000 in
theorem near_z (m a b : P2) (w : World) (hm : In3 m) (ha : In3 a) (hb : In3 b) (hx : btw m.x a.x b.x = true) (hy : btw m.y a.y b.y = true) :
    Calls Try.prog 56 #[ptv m, ptv a, ptv b] w fun e w' => e = .returned (.bool (flatB m a b)) ∧ Below w.heap.size w w' := by
  have HX := hid hx
  have HY := hid hy
  clear hx hy
  obtain ⟨W, hW⟩ : ∃ W, W = ((w.alloc (.cells (pcel m) 23)).alloc (.cells (pcel a) 23)).alloc (.cells (pcel b) 23) := ⟨_, rfl⟩
  have HM := hid (show Var W w.heap.size (pcel m) 23 by rw [hW]; exact ((Var.new w _ _ _ rfl).alloc _).alloc _)
  have HA := hid (show Var W (w.heap.size + 1) (pcel a) 23 by rw [hW]; exact (Var.new (w.alloc _) _ _ _ (by simp)).alloc _)
  have HD := hid (show Var W (w.heap.size + 1 + 1) (pcel b) 23 by rw [hW]; exact Var.new ((w.alloc _).alloc _) _ _ _ (by simp))
  have HB := hid (show Below w.heap.size w W by rw [hW]; exact below_alloc (below_alloc (below_alloc (Below.refl _ w) _) _) _)
  have BX := fun v w (h : btw m.x a.x b.x = v) => hid (btw_is h w hm.b.1 ha.b.1 hb.b.1)
  have BY := fun v w (h : btw m.y a.y b.y = v) => hid (btw_is h w hm.b.2 ha.b.2 hb.b.2)
  go_enter Try.func56, Try.ntmps56
  go_upto_region 1 with fail
  rw [← hW]
  clear hW
  obtain ⟨m0, m1, mf⟩ := HM.out.read2
  obtain ⟨a0, a1, af⟩ := HA.out.read2
  obtain ⟨b0, b1, bf⟩ := HD.out.read2
  go_wp2_with fail
  (with_reducible refine (BX _ _ HX.out).out.mono ?_); rintro e w1 ⟨rfl, rfl⟩
  go_wp2_with fail
  (with_reducible refine (BY _ _ HY.out).out.mono ?_); rintro e w1 ⟨rfl, rfl⟩
  obtain ⟨⟨mx1, mx2⟩, ⟨my1, my2⟩⟩ := hm
  obtain ⟨⟨ax1, ax2⟩, ⟨ay1, ay2⟩⟩ := ha
  obtain ⟨⟨bx1, bx2⟩, ⟨by1, by2⟩⟩ := hb
  have g1 : Rg (b.x - a.x) := by unfold Rg; omega
  have g2 : Rg (b.y - a.y) := by unfold Rg; omega
  clear m0 m1 mf a0 a1 af b0 b1 bf BX BY HX HY
  go_upto_region 3 with fail
  have LV1 := fun w1 (h : Below W.heap.size W w1) => HA.out.next h
  have LV2 := fun w1 (h : Below W.heap.size W w1) => HD.out.next h
  rename_i Kn hKn
  refine Iv.wp_region_inv (n := 65) (TJ [some 28, some 29, some 30, some 31, some 32, some 33, some 34, some 35, some 36, some 37, some 7, some 8]
      [.pointer (some ⟨w.heap.size + 1 + 1, 0, none⟩), .int .i64 b.x, .pointer (some ⟨w.heap.size + 1, 0, none⟩), .int .i64 a.x, .int .i64 (b.x - a.x), .pointer (some ⟨w.heap.size + 1 + 1, 1, none⟩), .int .i64 b.y, .pointer (some ⟨w.heap.size + 1, 1, none⟩), .int .i64 a.y, .int .i64 (b.y - a.y), .int .i64 (b.x - a.x), .int .i64 (b.y - a.y)]
      [(3, .pointer (some ⟨w.heap.size, 0, none⟩)), (4, .pointer (some ⟨w.heap.size + 1, 0, none⟩)), (5, .pointer (some ⟨w.heap.size + 1 + 1, 0, none⟩))] (MB W [])) _ (by kernel_rfl) (by kernel_rfl) (Is.start _ rfl) ?_ ?_ ?_
  · refine ⟨fun i d _ h => (by cases h), fun q hq => ?_, MB.start W _ _⟩
    simp only [List.mem_cons, List.not_mem_nil, or_false] at hq
    rcases hq with rfl | rfl | rfl
    all_goals rfl
  · exact ⟨nb_val rfl rfl rfl rfl rfl fun L f wx hL hdep H => run_fld_pt0 (H.x (5, .pointer (some ⟨w.heap.size + 1 + 1, 0, none⟩)) (by simp)),
    nb_val rfl rfl rfl rfl rfl fun L f wx hL hdep H => run_load_int (H.t 0 28 rfl (hdep ⟨0, .data⟩ (by simp) rfl)) ((LV2 wx H.m.b).cell 0),
    nb_val rfl rfl rfl rfl rfl fun L f wx hL hdep H => run_fld_pt0 (H.x (4, .pointer (some ⟨w.heap.size + 1, 0, none⟩)) (by simp)),
    nb_val rfl rfl rfl rfl rfl fun L f wx hL hdep H => run_load_int (H.t 2 30 rfl (hdep ⟨2, .data⟩ (by simp) rfl)) ((LV1 wx H.m.b).cell 0),
    nb_val rfl rfl rfl rfl rfl fun L f wx hL hdep H => run_sub (H.t 1 29 rfl (hdep ⟨1, .data⟩ (by simp) rfl)) (H.t 3 31 rfl (hdep ⟨3, .data⟩ (by simp) rfl)) g1,
    nb_val rfl rfl rfl rfl rfl fun L f wx hL hdep H => run_fld_pt1 (H.x (5, .pointer (some ⟨w.heap.size + 1 + 1, 0, none⟩)) (by simp)),
    nb_val rfl rfl rfl rfl rfl fun L f wx hL hdep H => run_load_int (H.t 5 33 rfl (hdep ⟨5, .data⟩ (by simp) rfl)) ((LV2 wx H.m.b).cell 1),
    nb_val rfl rfl rfl rfl rfl fun L f wx hL hdep H => run_fld_pt1 (H.x (4, .pointer (some ⟨w.heap.size + 1, 0, none⟩)) (by simp)),
    nb_val rfl rfl rfl rfl rfl fun L f wx hL hdep H => run_load_int (H.t 7 35 rfl (hdep ⟨7, .data⟩ (by simp) rfl)) ((LV1 wx H.m.b).cell 1),
    nb_val rfl rfl rfl rfl rfl fun L f wx hL hdep H => run_sub (H.t 6 34 rfl (hdep ⟨6, .data⟩ (by simp) rfl)) (H.t 8 36 rfl (hdep ⟨8, .data⟩ (by simp) rfl)) g2,
    nb_val rfl rfl rfl rfl rfl fun L f wx hL hdep H => congrArg (fun v => Result.ok (Next.value v) wx) (H.t 4 32 rfl (hdep ⟨4, .data⟩ (by simp) rfl)),
    nb_val rfl rfl rfl rfl rfl fun L f wx hL hdep H => congrArg (fun v => Result.ok (Next.value v) wx) (H.t 9 37 rfl (hdep ⟨9, .data⟩ (by simp) rfl)), trivial⟩
  intro L f act w1 hall H ha
  refine hKn _ _ ?_
  have k3 : f 3 = .pointer (some ⟨w.heap.size, 0, none⟩) := H.x (3, .pointer (some ⟨w.heap.size, 0, none⟩)) (by simp)
  have k4 : f 4 = .pointer (some ⟨w.heap.size + 1, 0, none⟩) := H.x (4, .pointer (some ⟨w.heap.size + 1, 0, none⟩)) (by simp)
  have k5 : f 5 = .pointer (some ⟨w.heap.size + 1 + 1, 0, none⟩) := H.x (5, .pointer (some ⟨w.heap.size + 1 + 1, 0, none⟩)) (by simp)
  have k7 : f 7 = .int .i64 (b.x - a.x) := H.t 10 7 rfl (hall 10 (by decide))
  have k8 : f 8 = .int .i64 (b.y - a.y) := H.t 11 8 rfl (hall 11 (by decide))
  have HBW := hid H.m.b
  have hw := ha.whole
  rw [show ((List.range 65).map f).toArray = #[f 0, f 1, f 2, f 3, f 4, f 5, f 6, f 7, f 8, f 9, f 10, f 11, f 12, f 13, f 14, f 15, f 16, f 17, f 18, f 19, f 20, f 21, f 22, f 23, f 24, f 25, f 26, f 27, f 28, f 29, f 30, f 31, f 32, f 33, f 34, f 35, f 36, f 37, f 38, f 39, f 40, f 41, f 42, f 43, f 44, f 45, f 46, f 47, f 48, f 49, f 50, f 51, f 52, f 53, f 54, f 55, f 56, f 57, f 58, f 59, f 60, f 61, f 62, f 63, f 64] from rfl] at hw
  rw [k3, k4, k5, k7, k8] at hw
  subst hw
  clear ha H hall hKn k3 k4 k5 k7 k8 Kn
  clear L
  have HM1 := hid (HM.out.next HBW.out)
  have HA1 := hid (HA.out.next HBW.out)
  have HB1 := hid (below_next HB.out HBW.out)
  clear HBW LV1 LV2 HM HA HD HB g1 g2
  have u1 := mulb (x := b.x - a.x) (y := m.y - a.y) (X := 65534) (Y := 65534) (by omega) (by omega)
  have u2 := mulb (x := b.y - a.y) (y := m.x - a.x) (X := 65534) (Y := 65534) (by omega) (by omega)
  obtain ⟨m0, m1, mf⟩ := HM1.out.read2
  obtain ⟨a0, a1, af⟩ := HA1.out.read2
  go_upto_region 5 with fail
  clear m0 m1 mf a0 a1 af
  have HC := hid (show flatB m a b = decide (max ((b.x - a.x) * (m.y - a.y) - (b.y - a.y) * (m.x - a.x)) (-((b.x - a.x) * (m.y - a.y) - (b.y - a.y) * (m.x - a.x))) ≤ max (max (max (max (b.x - a.x) (-(b.x - a.x))) (b.y - a.y)) (-(b.y - a.y))) 1) from rfl)
  have hz : -17179869184 ≤ (b.x - a.x) * (m.y - a.y) - (b.y - a.y) * (m.x - a.x) ∧ (b.x - a.x) * (m.y - a.y) - (b.y - a.y) * (m.x - a.x) ≤ 17179869184 := by omega
  generalize (b.x - a.x) * (m.y - a.y) - (b.y - a.y) * (m.x - a.x) = z at HC hz ⊢
  have hd : -65536 ≤ b.x - a.x ∧ b.x - a.x ≤ 65536 := by omega
  have he : -65536 ≤ b.y - a.y ∧ b.y - a.y ≤ 65536 := by omega
  clear u1 u2
  generalize b.x - a.x = d at HC hd ⊢
  generalize b.y - a.y = e at HC he ⊢
  rename_i Kn hKn
  refine wp_region_lit ?_
  refine sq_start (n := 65) rfl fun a0 hs0 => ?_
  have ha0 := ((((((hs0.pin 3 (v := .pointer (some ⟨w.heap.size, 0, none⟩)) rfl).pin 4 (v := .pointer (some ⟨w.heap.size + 1, 0, none⟩)) rfl).pin 5 (v := .pointer (some ⟨w.heap.size + 1 + 1, 0, none⟩)) rfl).pin 7 (v := .int .i64 d) rfl).pin 8 (v := .int .i64 e) rfl).pin 9 (v := .int .i64 z) rfl)
  clear hs0
  generalize (fun i => Array.getD _ i undef) = g0 at ha0
  refine sq_val (v := .int .i64 z) ha0 rfl rfl fun a1 ha1 => ?_
  refine sq_val (v := .int .i64 z) ha1 rfl rfl fun a2 ha2 => ?_
  refine sq_val (v := .int .i64 (-z)) ha2 rfl (run_neg rfl (by unfold Rg; omega)) fun a3 ha3 => ?_
  refine sq_val (v := .int .i64 (max z (-z))) ha3 rfl (run_max2 rfl rfl) fun a4 ha4 => ?_
  refine sq_val (v := .int .i64 d) ha4 rfl rfl fun a5 ha5 => ?_
  refine sq_val (v := .int .i64 d) ha5 rfl rfl fun a6 ha6 => ?_
  refine sq_val (v := .int .i64 (-d)) ha6 rfl (run_neg rfl (by unfold Rg; omega)) fun a7 ha7 => ?_
  refine sq_val (v := .int .i64 e) ha7 rfl rfl fun a8 ha8 => ?_
  refine sq_val (v := .int .i64 e) ha8 rfl rfl fun a9 ha9 => ?_
  refine sq_val (v := .int .i64 (-e)) ha9 rfl (run_neg rfl (by unfold Rg; omega)) fun a10 ha10 => ?_
  refine sq_val (v := .int .i64 (max (max (max (max d (-d)) e) (-e)) 1)) ha10 rfl (run_max5 rfl rfl rfl rfl rfl) fun a11 ha11 => ?_
  refine sq_val (v := .bool (decide ((max z (-z)) ≤ (max (max (max (max d (-d)) e) (-e)) 1)))) ha11 rfl (run_leq rfl rfl) fun a12 ha12 => ?_
  refine sq_val (v := .bool (decide ((max z (-z)) ≤ (max (max (max (max d (-d)) e) (-e)) 1)))) ha12 rfl rfl fun a13 ha13 => ?_
  refine wpList_nil ?_
  refine hKn _ _ ?_
  obtain ⟨g9, hg9, k6⟩ : ∃ g9, Is a13 65 g9 ∧ g9 6 = .bool (decide (max z (-z) ≤ max (max (max (max d (-d)) e) (-e)) 1)) := ⟨_, ha13, rfl⟩
  have hw := hg9.whole
  rw [show ((List.range 65).map g9).toArray = #[g9 0, g9 1, g9 2, g9 3, g9 4, g9 5, g9 6, g9 7, g9 8, g9 9, g9 10, g9 11, g9 12, g9 13, g9 14, g9 15, g9 16, g9 17, g9 18, g9 19, g9 20, g9 21, g9 22, g9 23, g9 24, g9 25, g9 26, g9 27, g9 28, g9 29, g9 30, g9 31, g9 32, g9 33, g9 34, g9 35, g9 36, g9 37, g9 38, g9 39, g9 40, g9 41, g9 42, g9 43, g9 44, g9 45, g9 46, g9 47, g9 48, g9 49, g9 50, g9 51, g9 52, g9 53, g9 54, g9 55, g9 56, g9 57, g9 58, g9 59, g9 60, g9 61, g9 62, g9 63, g9 64] from rfl] at hw
  rw [k6] at hw
  subst hw
  clear hg9 k6
  clear ha0 ha1 ha2 ha3 ha4 ha5 ha6 ha7 ha8 ha9 ha10 ha11 ha12 ha13 hKn Kn
  go_wp2_with fail
  go_ret
  exact ⟨ret1_bool ((decide_eq_decide.2 (by omega)).trans HC.out.symm), HB1.out⟩

theorem near_any (m a b : P2) (w : World) (hm : In3 m) (ha : In3 a) (hb : In3 b) :
    Calls Try.prog 56 #[ptv m, ptv a, ptv b] w fun e w' => e = .returned (.bool (near m a b)) ∧ Below w.heap.size w w' := by
  unfold near
  cases hx : btw m.x a.x b.x
  · exact near_x m a b w hm ha hb hx
  · cases hy : btw m.y a.y b.y
    · exact near_y m a b w hm ha hb hx hy
    · exact near_z m a b w hm ha hb hx hy

end Go.Proofs.Ytcdedefhofkbhaa
