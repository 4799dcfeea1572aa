/- What the functions of a curve return: round, isBetween, isNear, at. -/
import Derived.Test.YtcdedefhofkbhaaRun
namespace Go.Proofs.Ytcdedefhofkbhaa
open Go Go.RowKit
set_option linter.unusedVariables false
set_option linter.unusedSimpArgs false

theorem tdm (a b : Int) (hb : 1 ≤ b) (h : a < 0) : -(4 * a.tdiv b) ≤ -(4 * a) ∧ a.tdiv b ≤ 0 ∧ a.tmod b ≤ 0 ∧ -b < a.tmod b ∧ a.tmod b = a - b * a.tdiv b ∧
    (a.tmod b < 0 → a / b = a.tdiv b - 1 ∧ a % b = a.tmod b + b) ∧ (¬ a.tmod b < 0 → a / b = a.tdiv b ∧ a % b = a.tmod b) := by
  obtain ⟨n, rfl⟩ : ∃ n : Int, a = -n := ⟨-a, by omega⟩
  have hn : 0 < n := by omega
  rw [Int.neg_tdiv, Int.neg_tmod, Int.tdiv_eq_ediv_of_nonneg (by omega), Int.tmod_eq_emod_of_nonneg (by omega)]
  have e := Int.mul_ediv_add_emod n b
  have r0 := Int.emod_nonneg n (show b ≠ 0 by omega)
  have r1 := Int.emod_lt_of_pos n (show 0 < b by omega)
  have q0 : 0 ≤ n / b := Int.ediv_nonneg (by omega) (by omega)
  have q1 : n / b ≤ n := Int.ediv_le_self _ (by omega)
  have e' : b * (-(n / b)) = -(b * (n / b)) := Int.mul_neg _ _
  refine ⟨by omega, by omega, by omega, by omega, by rw [e']; omega, fun h => ?_, fun h => ?_⟩
  · have u := Int.ediv_emod_unique (a := -n) (b := b) (q := -(n / b) - 1) (r := -(n % b) + b) (by omega)
    obtain ⟨u1, u2⟩ := u.mpr ⟨by rw [Int.mul_sub, e']; omega, by omega, by omega⟩
    exact ⟨u1, u2⟩
  · have u := Int.ediv_emod_unique (a := -n) (b := b) (q := -(n / b)) (r := -(n % b)) (by omega)
    obtain ⟨u1, u2⟩ := u.mpr ⟨by rw [e']; omega, by omega, by omega⟩
    exact ⟨u1, u2⟩
theorem cround_any (a b : Int) (w : World) (hb : 1 ≤ b) (hb2 : b ≤ 281474976710656) (ha1 : -1152921504606846976 ≤ a) (ha2 : a ≤ 1152921504606846976) :
    Calls Try.prog 54 #[.int .i64 a, .int .i64 b] w fun e w' => e = .returned (.int .i64 (rnd a b)) ∧ Below w.heap.size w w' := by
  by_cases ha : 0 ≤ 2 * a + b
  · have q0 : 0 ≤ (2 * a + b) / (2 * b) := Int.ediv_nonneg (by omega) (by omega)
    have r0 : 0 ≤ (2 * a + b) % (2 * b) := Int.emod_nonneg _ (by omega)
    go_enter Try.func54, Try.ntmps54
    go_wp2
    go_region
    all_goals (go_wp2; go_ret; exact ⟨rfl, below_drewN (Below.refl _ w) 1⟩)
  · obtain ⟨b1, b2, b3, b4, -, b5, b6⟩ := tdm (2 * a + b) (2 * b) (by omega) (by omega)
    have B5 := hid b5
    have B6 := hid b6
    clear b5 b6
    go_enter Try.func54, Try.ntmps54
    go_wp2
    go_region
    all_goals go_wp2
    all_goals go_ret
    · exact ⟨ret1_int (B5.out (by assumption)).1.symm, below_drewN (Below.refl _ w) 1⟩
    · exact ⟨ret1_int (B6.out (by omega)).1.symm, below_drewN (Below.refl _ w) 1⟩

theorem btw_any (m a b : Int) (w : World) (hm : -65536 ≤ m ∧ m ≤ 65536) (ha : -65536 ≤ a ∧ a ≤ 65536) (hb : -65536 ≤ b ∧ b ≤ 65536) :
    Calls Try.prog 57 #[.int .i64 m, .int .i64 a, .int .i64 b] w fun e w' => e = .returned (.bool (btw m a b)) ∧ w = w' := by
  obtain ⟨m1, m2⟩ := hm
  obtain ⟨a1, a2⟩ := ha
  obtain ⟨b1, b2⟩ := hb
  go_enter Try.func57, Try.ntmps57
  go_wp2
  all_goals go_ret
  all_goals refine ⟨ret1_bool ?_, rfl⟩
  all_goals (rw [Bool.eq_iff_iff]; unfold btw; simp; try omega)

/-! ### the point at k/n -/
def In3 (p : P2) : Prop := (-32767 ≤ p.x ∧ p.x ≤ 32767) ∧ (-32767 ≤ p.y ∧ p.y ≤ 32767)
structure InC (c : Cu) : Prop where
  p : In3 c.p
  q : In3 c.q
  r : In3 c.r
  w : 16 ≤ c.w ∧ c.w ≤ 4096
theorem at_in {c : Cu} (h : InC c) {k n : Int} (hk : InK c.w k n) : In3 (c.at k n) := by
  obtain ⟨⟨p1, p2⟩, ⟨q1, q2⟩, ⟨r1, r2⟩, -⟩ := h
  exact ⟨⟨crd_ge hk p1.1 q1.1 r1.1, crd_le hk p1.2 q1.2 r1.2⟩, ⟨crd_ge hk p2.1 q2.1 r2.1, crd_le hk p2.2 q2.2 r2.2⟩⟩
theorem mulc {x c X : Int} (hx : 0 ≤ x ∧ x ≤ X) (hc : -32767 ≤ c ∧ c ≤ 32767) : -(X * 32767) ≤ x * c ∧ x * c ≤ X * 32767 := by
  have h1 := Int.mul_le_mul_of_nonneg_left hc.1 hx.1
  have h2 := Int.mul_le_mul_of_nonneg_left hc.2 hx.1
  have h3 := Int.mul_le_mul_of_nonneg_right hx.2 (show (0:Int) ≤ 32767 by omega)
  omega
theorem enters_cround : Enters Try.prog 54 := enters_of Try.func54 (by kernel_rfl) rfl
theorem cround_over {W : World} {u v : Value} {a b : Int} {g : Bool} {w : World} (h : Over W g w) (hu : u = .int .i64 a) (hv : v = .int .i64 b) (hb : 1 ≤ b) (hb2 : b ≤ 281474976710656) (ha1 : -1152921504606846976 ≤ a) (ha2 : a ≤ 1152921504606846976) :
    Calls Try.prog 54 #[u, v] w fun r w' => r = .returned (.int .i64 (rnd a b)) ∧ Over W g w' := by
  subst hu hv
  exact (cround_any a b w hb hb2 ha1 ha2).mono fun r w' ⟨hr, hk⟩ => ⟨hr, h.next hk⟩

set_option maxHeartbeats 1600000 in
set_option maxRecDepth 100000 in
theorem at_any (c : Cu) (k n : Int) (w : World) (hc : InC c) (hk : InK c.w k n) :
    Calls Try.prog 44 #[cuv c, .int .i64 k, .int .i64 n] w fun e w' => e = .returned (pt (c.at k n).x (c.at k n).y) ∧ Below w.heap.size w w' := by
  have b0 := w0_bd hk
  have b1 := w1_bd hk
  have b2 := w2_bd hk
  have b3 := ww_pos hk
  have b5 := w1_bd' hk
  have HC := hid hc
  have HW := hc.w
  obtain ⟨k0, kn, n1, n2, wl, wu⟩ := hk
  have HG := hid (show Rg (n - k) ∧ Rg (256 * (n - k)) ∧ Rg (256 * (n - k) * (n - k)) ∧ Rg (2 * k) ∧ Rg (2 * k * (n - k)) ∧ Rg (2 * k * (n - k) * c.w) ∧ Rg (256 * k) ∧ Rg (256 * k * k) from by
    unfold w0 at b0; unfold w1 at b1; unfold w2 at b2; unfold Rg
    exact ⟨by omega, by omega, by omega, by omega, by omega, by omega, by omega, by omega⟩)
  clear hc b5
  unfold ww at b3
  obtain ⟨A, hA⟩ : ∃ A, A = w0 k n := ⟨_, rfl⟩
  obtain ⟨B, hB⟩ : ∃ B, B = w1 c.w k n := ⟨_, rfl⟩
  obtain ⟨C, hCC⟩ : ∃ C, C = w2 k := ⟨_, rfl⟩
  rw [← hA] at b0 b3; rw [← hB] at b1 b3; rw [← hCC] at b2 b3
  have HE := hid (And.intro hA (And.intro hB hCC))
  clear hA hB hCC
  obtain ⟨W, hW⟩ : ∃ W, W = (w.alloc (.cells (ccel c) 74)).alloc (.cells #[.int .i64 0, .int .i64 0] 23) := ⟨_, rfl⟩
  have HV0 := hid (show Var W w.heap.size (ccel c) 74 by rw [hW]; exact (Var.new w _ _ _ rfl).alloc _)
  have HV1 := hid (show Var W (w.heap.size + 1) #[.int .i64 0, .int .i64 0] 23 by rw [hW]; exact Var.new (w.alloc _) _ _ _ (by simp))
  have HB := hid (show Below w.heap.size w W by rw [hW]; exact below_alloc (below_alloc (Below.refl _ w) _) _)
  go_enter Try.func44, Try.ntmps44
  go_upto_region 1 with fail
  rw [← hW]
  clear hW
  obtain ⟨g1, g2, g3, g4, g5, g6, g7, g8⟩ := HG.out
  have LV0 := fun w1 (h : Below W.heap.size W w1) => HV0.out.next h
  rename_i Kn hKn
  refine Iv.wp_region_inv (n := 76) (TJ [some 11, some 12, some 13, some 14, some 15, some 16, some 17, some 18, some 19, some 20, some 21, some 22, some 23, some 24, some 25, some 26, some 27, some 28, some 29, some 30, some 31, some 7, some 8, some 9]
      [.int .i64 n, .int .i64 k, .int .i64 (n - k), .int .i64 (256 * (n - k)), .int .i64 n, .int .i64 k, .int .i64 (n - k), .int .i64 ((256 * (n - k)) * (n - k)), .int .i64 k, .int .i64 (2 * k), .int .i64 n, .int .i64 k, .int .i64 (n - k), .int .i64 (2 * k * (n - k)), .pointer (some ⟨w.heap.size, 6, none⟩), .int .i64 c.w, .int .i64 ((2 * k * (n - k)) * c.w), .int .i64 k, .int .i64 (256 * k), .int .i64 k, .int .i64 (256 * k * k), .int .i64 ((256 * (n - k)) * (n - k)), .int .i64 ((2 * k * (n - k)) * c.w), .int .i64 (256 * k * k)]
      [(1, .int .i64 k), (2, .int .i64 n), (3, .pointer (some ⟨w.heap.size, 0, none⟩)), (6, .pointer (some ⟨w.heap.size + 1, 0, none⟩))] (MB W [])) _ (by kernel_rfl) (by kernel_rfl) (Is.start _ rfl) ?_ ?_ ?_
  · refine ⟨fun i d _ h => (by cases h), fun q hq => ?_, MB.start W _ _⟩
    simp only [List.mem_cons, List.not_mem_nil, or_false] at hq
    rcases hq with rfl | rfl | rfl | rfl
    all_goals rfl
  · exact ⟨nb_val rfl rfl rfl rfl rfl fun L f wx hL hdep H => congrArg (fun v => Result.ok (Next.value v) wx) (H.x (2, .int .i64 n) (by simp)),
    nb_val rfl rfl rfl rfl rfl fun L f wx hL hdep H => congrArg (fun v => Result.ok (Next.value v) wx) (H.x (1, .int .i64 k) (by simp)),
    nb_val rfl rfl rfl rfl rfl fun L f wx hL hdep H => run_sub (H.t 0 11 rfl (hdep ⟨0, .data⟩ (by simp) rfl)) (H.t 1 12 rfl (hdep ⟨1, .data⟩ (by simp) rfl)) g1,
    nb_val rfl rfl rfl rfl rfl fun L f wx hL hdep H => run_mul rfl (H.t 2 13 rfl (hdep ⟨2, .data⟩ (by simp) rfl)) g2,
    nb_val rfl rfl rfl rfl rfl fun L f wx hL hdep H => congrArg (fun v => Result.ok (Next.value v) wx) (H.x (2, .int .i64 n) (by simp)),
    nb_val rfl rfl rfl rfl rfl fun L f wx hL hdep H => congrArg (fun v => Result.ok (Next.value v) wx) (H.x (1, .int .i64 k) (by simp)),
    nb_val rfl rfl rfl rfl rfl fun L f wx hL hdep H => run_sub (H.t 4 15 rfl (hdep ⟨4, .data⟩ (by simp) rfl)) (H.t 5 16 rfl (hdep ⟨5, .data⟩ (by simp) rfl)) g1,
    nb_val rfl rfl rfl rfl rfl fun L f wx hL hdep H => run_mul (H.t 3 14 rfl (hdep ⟨3, .data⟩ (by simp) rfl)) (H.t 6 17 rfl (hdep ⟨6, .data⟩ (by simp) rfl)) g3,
    nb_val rfl rfl rfl rfl rfl fun L f wx hL hdep H => congrArg (fun v => Result.ok (Next.value v) wx) (H.x (1, .int .i64 k) (by simp)),
    nb_val rfl rfl rfl rfl rfl fun L f wx hL hdep H => run_mul rfl (H.t 8 19 rfl (hdep ⟨8, .data⟩ (by simp) rfl)) g4,
    nb_val rfl rfl rfl rfl rfl fun L f wx hL hdep H => congrArg (fun v => Result.ok (Next.value v) wx) (H.x (2, .int .i64 n) (by simp)),
    nb_val rfl rfl rfl rfl rfl fun L f wx hL hdep H => congrArg (fun v => Result.ok (Next.value v) wx) (H.x (1, .int .i64 k) (by simp)),
    nb_val rfl rfl rfl rfl rfl fun L f wx hL hdep H => run_sub (H.t 10 21 rfl (hdep ⟨10, .data⟩ (by simp) rfl)) (H.t 11 22 rfl (hdep ⟨11, .data⟩ (by simp) rfl)) g1,
    nb_val rfl rfl rfl rfl rfl fun L f wx hL hdep H => run_mul (H.t 9 20 rfl (hdep ⟨9, .data⟩ (by simp) rfl)) (H.t 12 23 rfl (hdep ⟨12, .data⟩ (by simp) rfl)) g5,
    nb_val rfl rfl rfl rfl rfl fun L f wx hL hdep H => run_fld_cu3 (H.x (3, .pointer (some ⟨w.heap.size, 0, none⟩)) (by simp)),
    nb_val rfl rfl rfl rfl rfl fun L f wx hL hdep H => run_load_int (H.t 14 25 rfl (hdep ⟨14, .data⟩ (by simp) rfl)) ((LV0 wx H.m.b).cell 6),
    nb_val rfl rfl rfl rfl rfl fun L f wx hL hdep H => run_mul (H.t 13 24 rfl (hdep ⟨13, .data⟩ (by simp) rfl)) (H.t 15 26 rfl (hdep ⟨15, .data⟩ (by simp) rfl)) g6,
    nb_val rfl rfl rfl rfl rfl fun L f wx hL hdep H => congrArg (fun v => Result.ok (Next.value v) wx) (H.x (1, .int .i64 k) (by simp)),
    nb_val rfl rfl rfl rfl rfl fun L f wx hL hdep H => run_mul rfl (H.t 17 28 rfl (hdep ⟨17, .data⟩ (by simp) rfl)) g7,
    nb_val rfl rfl rfl rfl rfl fun L f wx hL hdep H => congrArg (fun v => Result.ok (Next.value v) wx) (H.x (1, .int .i64 k) (by simp)),
    nb_val rfl rfl rfl rfl rfl fun L f wx hL hdep H => run_mul (H.t 18 29 rfl (hdep ⟨18, .data⟩ (by simp) rfl)) (H.t 19 30 rfl (hdep ⟨19, .data⟩ (by simp) rfl)) g8,
    nb_val rfl rfl rfl rfl rfl fun L f wx hL hdep H => congrArg (fun v => Result.ok (Next.value v) wx) (H.t 7 18 rfl (hdep ⟨7, .data⟩ (by simp) rfl)),
    nb_val rfl rfl rfl rfl rfl fun L f wx hL hdep H => congrArg (fun v => Result.ok (Next.value v) wx) (H.t 16 27 rfl (hdep ⟨16, .data⟩ (by simp) rfl)),
    nb_val rfl rfl rfl rfl rfl fun L f wx hL hdep H => congrArg (fun v => Result.ok (Next.value v) wx) (H.t 20 31 rfl (hdep ⟨20, .data⟩ (by simp) rfl)), trivial⟩
  intro L f act w1 hall H ha
  refine hKn _ _ ?_
  have k1 : f 1 = .int .i64 k := H.x (1, .int .i64 k) (by simp)
  have k2 : f 2 = .int .i64 n := H.x (2, .int .i64 n) (by simp)
  have k3 : f 3 = .pointer (some ⟨w.heap.size, 0, none⟩) := H.x (3, .pointer (some ⟨w.heap.size, 0, none⟩)) (by simp)
  have k6 : f 6 = .pointer (some ⟨w.heap.size + 1, 0, none⟩) := H.x (6, .pointer (some ⟨w.heap.size + 1, 0, none⟩)) (by simp)
  have k7 : f 7 = .int .i64 (A) := (H.t 21 7 rfl (hall 21 (by decide))).trans (by rw [HE.out.1]; rfl)
  have k8 : f 8 = .int .i64 (B) := (H.t 22 8 rfl (hall 22 (by decide))).trans (by rw [HE.out.2.1]; rfl)
  have k9 : f 9 = .int .i64 (C) := (H.t 23 9 rfl (hall 23 (by decide))).trans (by rw [HE.out.2.2]; rfl)
  have HBW := hid H.m.b
  have hw := ha.whole
  rw [show ((List.range 76).map f).toArray = #[f 0, f 1, f 2, f 3, f 4, f 5, f 6, f 7, f 8, f 9, f 10, f 11, f 12, f 13, f 14, f 15, f 16, f 17, f 18, f 19, f 20, f 21, f 22, f 23, f 24, f 25, f 26, f 27, f 28, f 29, f 30, f 31, f 32, f 33, f 34, f 35, f 36, f 37, f 38, f 39, f 40, f 41, f 42, f 43, f 44, f 45, f 46, f 47, f 48, f 49, f 50, f 51, f 52, f 53, f 54, f 55, f 56, f 57, f 58, f 59, f 60, f 61, f 62, f 63, f 64, f 65, f 66, f 67, f 68, f 69, f 70, f 71, f 72, f 73, f 74, f 75] from rfl] at hw
  rw [k1, k2, k3, k6, k7, k8, k9] at hw
  subst hw
  clear ha H hall hKn k1 k2 k3 k6 k7 k8 k9 Kn
  clear L
  have HV01 := hid (HV0.out.next HBW.out)
  have HV11 := hid (HV1.out.next HBW.out)
  have HB1 := hid (below_next HB.out HBW.out)
  clear HBW LV0 g1 g2 g3 g4 g5 g6 g7 g8 HV0 HV1 HB HG
  go_upto_region 3 with fail
  obtain ⟨⟨⟨p1, p2⟩, ⟨p3, p4⟩⟩, ⟨⟨q1, q2⟩, ⟨q3, q4⟩⟩, ⟨⟨r1, r2⟩, ⟨r3, r4⟩⟩, -⟩ := HC.out
  have t1 := mulc b0 ⟨p1, p2⟩
  have t2 := mulc b1 ⟨q1, q2⟩
  have t3 := mulc b2 ⟨r1, r2⟩
  have t4 := mulc b0 ⟨p3, p4⟩
  have t5 := mulc b1 ⟨q3, q4⟩
  have t6 := mulc b2 ⟨r3, r4⟩
  clear p1 p2 p3 p4 q1 q2 q3 q4 r1 r2 r3 r4
  have x0 : Rg (A * c.p.x) := by unfold Rg; omega
  have x1 : Rg (B * c.q.x) := by unfold Rg; omega
  have x2 : Rg (A * c.p.x + B * c.q.x) := by unfold Rg; omega
  have x3 : Rg (C * c.r.x) := by unfold Rg; omega
  have x4 : Rg (A * c.p.x + B * c.q.x + C * c.r.x) := by unfold Rg; omega
  have x5 : -1152921504606846976 ≤ A * c.p.x + B * c.q.x + C * c.r.x ∧ A * c.p.x + B * c.q.x + C * c.r.x ≤ 1152921504606846976 := by omega
  have y0 : Rg (A * c.p.y) := by unfold Rg; omega
  have y1 : Rg (B * c.q.y) := by unfold Rg; omega
  have y2 : Rg (A * c.p.y + B * c.q.y) := by unfold Rg; omega
  have y3 : Rg (C * c.r.y) := by unfold Rg; omega
  have y4 : Rg (A * c.p.y + B * c.q.y + C * c.r.y) := by unfold Rg; omega
  have y5 : -1152921504606846976 ≤ A * c.p.y + B * c.q.y + C * c.r.y ∧ A * c.p.y + B * c.q.y + C * c.r.y ≤ 1152921504606846976 := by omega
  have d0 : 1 ≤ A + B + C ∧ A + B + C ≤ 281474976710656 := by omega
  clear t1 t2 t3 t4 t5 t6
  rename_i Kn hKn
  refine wp_region_fan 39 1000 (Over w1) (by kernel_rfl) (by kernel_rfl) (Over.start w1) ?_
  simp only [List.take_succ_cons, List.take_zero, List.drop_succ_cons, List.drop_zero]
  have L0 := fun b w2 (h : Over w1 b w2) => Over.var HV01.out h
  refine WalksE.sound _ _ _ _ ?_ (((((((Is.start _ (n := 76) rfl).pin 3 (v := .pointer (some ⟨w.heap.size, 0, none⟩)) rfl).pin 6 (v := .pointer (some ⟨w.heap.size + 1, 0, none⟩)) rfl).pin 7 (v := .int .i64 (A)) rfl).pin 8 (v := .int .i64 (B)) rfl).pin 9 (v := .int .i64 (C)) rfl).pin 10 (v := .int .i64 (A + B + C)) rfl)
  generalize (fun i => Array.getD _ i undef) = g
  refine walks_with fun KQ hKQ => ?_
  (refine walks_one fun K hK => ?_); refine st_pure rfl rfl (fun _ => rfl) ?_; refine hK _ ?_; clear hK K
  (refine walks_one fun K hK => ?_); refine st_pure rfl rfl (fun _ => rfl) ?_; refine hK _ ?_; clear hK K
  (refine walks_one fun K hK => ?_); refine st_pure rfl rfl (fun _ => rfl) ?_; refine hK _ ?_; clear hK K
  (refine walks_one fun K hK => ?_); refine st_load L0 rfl rfl rfl rfl ?_; refine hK _ ?_; clear hK K
  (refine walks_one fun K hK => ?_); refine st_pure rfl rfl (fun _ => run_mul rfl rfl x0) ?_; refine hK _ ?_; clear hK K
  (refine walks_one fun K hK => ?_); refine st_pure rfl rfl (fun _ => rfl) ?_; refine hK _ ?_; clear hK K
  (refine walks_one fun K hK => ?_); refine st_pure rfl rfl (fun _ => rfl) ?_; refine hK _ ?_; clear hK K
  (refine walks_one fun K hK => ?_); refine st_pure rfl rfl (fun _ => rfl) ?_; refine hK _ ?_; clear hK K
  (refine walks_one fun K hK => ?_); refine st_load L0 rfl rfl rfl rfl ?_; refine hK _ ?_; clear hK K
  (refine walks_one fun K hK => ?_); refine st_pure rfl rfl (fun _ => run_mul rfl rfl x1) ?_; refine hK _ ?_; clear hK K
  (refine walks_one fun K hK => ?_); refine st_pure rfl rfl (fun _ => run_add rfl rfl x2) ?_; refine hK _ ?_; clear hK K
  (refine walks_one fun K hK => ?_); refine st_pure rfl rfl (fun _ => rfl) ?_; refine hK _ ?_; clear hK K
  (refine walks_one fun K hK => ?_); refine st_pure rfl rfl (fun _ => rfl) ?_; refine hK _ ?_; clear hK K
  (refine walks_one fun K hK => ?_); refine st_pure rfl rfl (fun _ => rfl) ?_; refine hK _ ?_; clear hK K
  (refine walks_one fun K hK => ?_); refine st_load L0 rfl rfl rfl rfl ?_; refine hK _ ?_; clear hK K
  (refine walks_one fun K hK => ?_); refine st_pure rfl rfl (fun _ => run_mul rfl rfl x3) ?_; refine hK _ ?_; clear hK K
  (refine walks_one fun K hK => ?_); refine st_pure rfl rfl (fun _ => run_add rfl rfl x4) ?_; refine hK _ ?_; clear hK K
  (refine walks_one fun K hK => ?_); refine st_pure rfl rfl (fun _ => rfl) ?_; refine hK _ ?_; clear hK K
  (refine walks_one fun K hK => ?_); refine st_call rfl rfl (fun _ => run_call2 rfl enters_cround) (fun _ _ h => cround_over h rfl rfl d0.1 d0.2 x5.1 x5.2) ?_; refine hK _ ?_; clear hK K
  (refine walks_one fun K hK => ?_); refine st_pure rfl rfl (fun _ => rfl) ?_; refine hK _ ?_; clear hK K
  (refine walks_one fun K hK => ?_); refine st_pure rfl rfl (fun _ => rfl) ?_; refine hK _ ?_; clear hK K
  (refine walks_one fun K hK => ?_); refine st_pure rfl rfl (fun _ => rfl) ?_; refine hK _ ?_; clear hK K
  (refine walks_one fun K hK => ?_); refine st_load L0 rfl rfl rfl rfl ?_; refine hK _ ?_; clear hK K
  (refine walks_one fun K hK => ?_); refine st_pure rfl rfl (fun _ => run_mul rfl rfl y0) ?_; refine hK _ ?_; clear hK K
  (refine walks_one fun K hK => ?_); refine st_pure rfl rfl (fun _ => rfl) ?_; refine hK _ ?_; clear hK K
  (refine walks_one fun K hK => ?_); refine st_pure rfl rfl (fun _ => rfl) ?_; refine hK _ ?_; clear hK K
  (refine walks_one fun K hK => ?_); refine st_pure rfl rfl (fun _ => rfl) ?_; refine hK _ ?_; clear hK K
  (refine walks_one fun K hK => ?_); refine st_load L0 rfl rfl rfl rfl ?_; refine hK _ ?_; clear hK K
  (refine walks_one fun K hK => ?_); refine st_pure rfl rfl (fun _ => run_mul rfl rfl y1) ?_; refine hK _ ?_; clear hK K
  (refine walks_one fun K hK => ?_); refine st_pure rfl rfl (fun _ => run_add rfl rfl y2) ?_; refine hK _ ?_; clear hK K
  (refine walks_one fun K hK => ?_); refine st_pure rfl rfl (fun _ => rfl) ?_; refine hK _ ?_; clear hK K
  (refine walks_one fun K hK => ?_); refine st_pure rfl rfl (fun _ => rfl) ?_; refine hK _ ?_; clear hK K
  (refine walks_one fun K hK => ?_); refine st_pure rfl rfl (fun _ => rfl) ?_; refine hK _ ?_; clear hK K
  (refine walks_one fun K hK => ?_); refine st_load L0 rfl rfl rfl rfl ?_; refine hK _ ?_; clear hK K
  (refine walks_one fun K hK => ?_); refine st_pure rfl rfl (fun _ => run_mul rfl rfl y3) ?_; refine hK _ ?_; clear hK K
  (refine walks_one fun K hK => ?_); refine st_pure rfl rfl (fun _ => run_add rfl rfl y4) ?_; refine hK _ ?_; clear hK K
  (refine walks_one fun K hK => ?_); refine st_pure rfl rfl (fun _ => rfl) ?_; refine hK _ ?_; clear hK K
  (refine walks_one fun K hK => ?_); refine st_call rfl rfl (fun _ => run_call2 rfl enters_cround) (fun _ _ h => cround_over h rfl rfl d0.1 d0.2 y5.1 y5.2) ?_; refine hK _ ?_; clear hK K
  (refine walks_one fun K hK => ?_); refine st_pure rfl rfl (fun _ => run_buildPt rfl rfl) ?_; refine hK _ ?_; clear hK K
  refine walks_end fun a9 ha9 => hKQ _ fun w1 hC => ?_
  have e6 : a9.eval (.tmp 6) = .pointer (some ⟨w.heap.size + 1, 0, none⟩) := by rw [ha9.eval]; rfl
  have e75 : a9.eval (.tmp 75) = pt (rnd (A * c.p.x + B * c.q.x + C * c.r.x) (A + B + C)) (rnd (A * c.p.y + B * c.q.y + C * c.r.y) (A + B + C)) := by rw [ha9.eval]; rfl
  refine tail2s e6 e75 (HV11.out.next hC) ?_
  refine hKn _ _ ?_
  obtain ⟨g9, hg9, k6⟩ : ∃ g9, Is a9 76 g9 ∧ g9 6 = .pointer (some ⟨w.heap.size + 1, 0, none⟩) := ⟨_, ha9, rfl⟩
  have hw := hg9.whole
  rw [show ((List.range 76).map g9).toArray = #[g9 0, g9 1, g9 2, g9 3, g9 4, g9 5, g9 6, g9 7, g9 8, g9 9, g9 10, g9 11, g9 12, g9 13, g9 14, g9 15, g9 16, g9 17, g9 18, g9 19, g9 20, g9 21, g9 22, g9 23, g9 24, g9 25, g9 26, g9 27, g9 28, g9 29, g9 30, g9 31, g9 32, g9 33, g9 34, g9 35, g9 36, g9 37, g9 38, g9 39, g9 40, g9 41, g9 42, g9 43, g9 44, g9 45, g9 46, g9 47, g9 48, g9 49, g9 50, g9 51, g9 52, g9 53, g9 54, g9 55, g9 56, g9 57, g9 58, g9 59, g9 60, g9 61, g9 62, g9 63, g9 64, g9 65, g9 66, g9 67, g9 68, g9 69, g9 70, g9 71, g9 72, g9 73, g9 74, g9 75] from rfl] at hw
  rw [k6] at hw
  subst hw
  clear hg9 k6
  have V1 := (HV11.out.next hC).set2 (p := .int .i64 (rnd (A * c.p.x + B * c.q.x + C * c.r.x) (A + B + C))) (q := .int .i64 (rnd (A * c.p.y + B * c.q.y + C * c.r.y) (A + B + C)))
  have B1 := below_set2 (b := w.heap.size + 1) (p := .int .i64 (rnd (A * c.p.x + B * c.q.x + C * c.r.x) (A + B + C))) (q := .int .i64 (rnd (A * c.p.y + B * c.q.y + C * c.r.y) (A + B + C))) (below_next HB1.out hC) (Nat.le_succ _)
  go_wp2_with fail
  refine retP Try.results44 rfl V1 ⟨?_, B1⟩
  obtain ⟨e1, e2, e3⟩ := HE.out
  subst e1 e2 e3
  rfl

end Go.Proofs.Ytcdedefhofkbhaa
