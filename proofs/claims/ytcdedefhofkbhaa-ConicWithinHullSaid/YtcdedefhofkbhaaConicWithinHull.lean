/- ConicWithinHull: all points that Points returns lie in the rectangle of the three points of the curve, and the last one is its end. -/
import Derived.Test.YtcdedefhofkbhaaRows
import Derived.WalkKit
import Derived.ProofKit
import Derived.OpenShut
import Derived.ChangeOld
import Derived.Below
import Derived.Test.YtcdedefhofkbhaaOpen
import Derived.Test.YtcdedefhofkbhaaArcs
namespace Go.Proofs.Ytcdedefhofkbhaa.conicWithinHull
open Go Go.ChangeShapes Go.WideShapes Go.ChangeAt Go.RowKit Go.Deep
set_option linter.unusedVariables false

theorem pts_mem {ps : List P2} {k : Nat} {q : P2} (h : ps[k]? = some q) : q ∈ ps := List.mem_of_getElem? h
/-- The segment with its control point: that of a line is its end. -/
def lineC (s : Sg) : Sg := if s.k = 2 then ⟨s.k, s.x, s.y, s.x, s.y, s.w⟩ else s
theorem hull_all {p : P2} {s : Sg} (h : ptE p s = 0) : ∀ q ∈ ptP p s, (min (min p.x (lineC s).u) (lineC s).x ≤ q.x ∧ q.x ≤ max (max p.x (lineC s).u) (lineC s).x) ∧ (min (min p.y (lineC s).v) (lineC s).y ≤ q.y ∧ q.y ≤ max (max p.y (lineC s).v) (lineC s).y) := by
  intro q hq
  unfold ptP replP at hq
  rw [if_pos h] at hq
  rcases (ptE_good h).1 with hk | ⟨hk, hc⟩
  · rw [if_pos hk] at hq
    rw [List.mem_singleton] at hq
    subst hq
    unfold lineC
    rw [if_pos hk]
    simp only
    omega
  · rw [if_neg (by omega)] at hq
    unfold lineC
    rw [if_neg (by omega)]
    unfold Cu.pts at hq
    obtain ⟨k, hk2, rfl⟩ := List.mem_map.1 hq
    have hd := dv_bd (cuOf p s)
    exact at_hull (c := cuOf p s) hc.w hd.1 (by omega) (by have := List.mem_range.1 hk2; omega)
theorem last_is {p : P2} {s : Sg} (h : ptE p s = 0) : ∃ m, (ptP p s).length = m + 1 ∧ m + 1 ≤ 512 ∧ (ptP p s)[m]? = some ⟨s.x, s.y⟩ := by
  unfold ptP replP
  rw [if_pos h]
  rcases (ptE_good h).1 with hk | ⟨hk, hc⟩
  · rw [if_pos hk]; exact ⟨0, rfl, by omega, rfl⟩
  · rw [if_neg (by omega)]
    have hd := dv_bd (cuOf p s)
    have hl := pts_last (c := cuOf p s) hc.w
    have hn := pts_length (cuOf p s)
    rw [List.getLast?_eq_getElem?, hn] at hl
    exact ⟨(cuOf p s).dv - 1, by rw [hn]; omega, by omega, hl⟩
theorem run_gt0 {ρ : Operand → Value} {dst : Option Tmp} {ty : TypeId} {pos : String} {af : Array Edge} {x y : Operand} {w : World} {gd : Option (Nat × Bool)} {i : Int} (hx : ρ x = .int .i64 i) (hy : ρ y = .int .i64 0) (h : 0 < i) :
    (execOp ρ { dst := dst, op := .binOp .gtr 3 x y 3, type := ty, pos := pos, after := af, guard := gd }).run Try.prog w = .ok (.value (.bool true)) w := by
  have e : decide (0 < i) = true := by simpa using h
  have e2 : (i > 0) := h
  go_simp
theorem run_eqPt {ρ : Operand → Value} {dst : Option Tmp} {ty : TypeId} {pos : String} {af : Array Edge} {x y : Operand} {w : World} {gd : Option (Nat × Bool)} {p : P2} (hx : ρ x = ptv p) (hy : ρ y = ptv p) :
    (execOp ρ { dst := dst, op := .binOp .eql 23 x y 23, type := ty, pos := pos, after := af, guard := gd }).run Try.prog w = .ok (.value (.bool true)) w := by
  go_simp
theorem run_len {ρ : Operand → Value} {dst : Option Tmp} {ty : TypeId} {pos : String} {af : Array Edge} {x : Operand} {w : World} {gd : Option (Nat × Bool)} {A : Option Addr} {n c : Nat} (hx : ρ x = .slice A n c) :
    (execOp ρ { dst := dst, op := .call { callee := .builtin .len, args := #[x], argTypes := #[27] }, type := ty, pos := pos, after := af, guard := gd }).run Try.prog w = .ok (.value (.int .i64 n)) w := by
  go_simp
theorem run_ptAt {ρ : Operand → Value} {dst : Option Tmp} {ty : TypeId} {pos : String} {af : Array Edge} {x : Operand} {w : World} {gd : Option (Nat × Bool)} {g j : Nat} {p : P2} (hx : ρ x = .pointer (some ⟨g, j, none⟩)) (h0 : w.cell? ⟨g, j, none⟩ = some (.int .i64 p.x)) (h1 : w.cell? ⟨g, j + 1, none⟩ = some (.int .i64 p.y)) :
    (execOp ρ { dst := dst, op := .load 23 x, type := ty, pos := pos, after := af, guard := gd }).run Try.prog w = .ok (.value (ptv p)) w := by
  go_simp

set_option maxHeartbeats 3200000 in
set_option maxRecDepth 100000 in
/-- From the bounds on. -/
theorem core (p : P2) (s : Sg) (W : World) (h : ptE p s = 0) : Calls Try.prog 3 #[ptv p, seg s] W fun e w' => e = .returned (.bool true) ∧ Below W.heap.size W w' := by
  have HE := hid h
  have HH := hid (hull_all h)
  have HT := hid (last_is h)
  have HA := fun w => hid (points_any p s w)
  rw [h] at HA
  have hk : (s.k == 2) = true ∧ lineC s = ⟨s.k, s.x, s.y, s.x, s.y, s.w⟩ ∨ (s.k == 2) = false ∧ lineC s = s := by
    unfold lineC
    by_cases h2 : s.k = 2
    · exact .inl ⟨by simp [h2], if_pos h2⟩
    · exact .inr ⟨by simp [h2], if_neg h2⟩
  generalize lineC s = t at HH hk
  generalize ptP p s = ps at HH HT HA
  obtain ⟨m, hm, hm2, hlast⟩ := HT.out
  clear h HT
  obtain ⟨b2, hb2⟩ : ∃ b, b = W.heap.size := ⟨_, rfl⟩
  obtain ⟨b3, hb3⟩ : ∃ b, b = W.heap.size + 1 := ⟨_, rfl⟩
  obtain ⟨w0, hw0⟩ : ∃ w0, w0 = (W.alloc (.cells (pcel p) 23)).alloc (.cells (cel s) 25) := ⟨_, rfl⟩
  have HP := hid (show Var w0 b2 (pcel p) 23 by rw [hw0, hb2]; exact (Var.new W _ _ _ rfl).alloc _)
  have HS := hid (show Var w0 b3 (cel s) 25 by rw [hw0, hb3]; exact Var.new (W.alloc _) _ _ _ (by simp))
  have HB := hid (show Below W.heap.size W w0 by rw [hw0]; exact below_alloc (below_alloc (Below.refl _ W) _) _)
  have HN := hid (show b2 ≠ b3 by omega)
  have HGE := hid (show W.heap.size ≤ b3 by omega)
  go_enter Try.func3, Try.ntmps3
  go_upto_region 1 with fail
  rw [← hw0, ← hb3, ← hb2]
  clear hw0 hb2 hb3
  go_wp2_with fail
  (with_reducible refine (arcs_any _).mono ?_); rintro e w1 ⟨rfl, hb⟩
  have HP1 := hid (HP.out.next hb)
  have HS1 := hid (HS.out.next hb)
  have HB1 := hid (below_next HB.out hb)
  clear hb HP HS HB
  obtain ⟨p0, p1, p2, p3, p4, p5, pf⟩ := HS1.out.read6
  obtain ⟨q0, q1, qf⟩ := HP1.out.read2
  go_wp2_with fail
  clear p0 p1 p2 p3 p4 p5 pf q0 q1 qf
  (with_reducible refine (HA _).out.mono ?_); rintro e w2 ⟨v, rfl, ho, hb⟩
  have HP2 := hid (HP1.out.next hb)
  have HS2 := hid (HS1.out.next hb)
  have HB2 := hid (below_next HB1.out hb)
  rw [hm] at ho
  obtain ⟨g, c, rfl, -, hg, hr⟩ := own_row ho (by omega)
  have HG := hid hg
  have HR := hid hr
  have HGB := hid (show b3 ≠ g ∧ b2 ≠ g from by
    obtain ⟨_, hgb⟩ := own_ge ho
    have := HS1.out.lt; have := HP1.out.lt
    exact ⟨by omega, by omega⟩)
  clear ho hb hg hr HA HP1 HS1 HB1
  obtain ⟨p0, p1, p2, p3, p4, p5, pf⟩ := HS2.out.read6
  rcases hk with ⟨hk, ht⟩ | ⟨hk, ht⟩
  · have HT := hid ht
    clear ht
    go_upto_region 8 with fail
    clear p0 p1 p2 p3 p4 p5 pf
    generalize hw7 : (w2.setCell ⟨b3, 3, none⟩ (.int .i64 s.x)).setCell ⟨b3, 4, none⟩ (.int .i64 s.y) = w7
    have HP7 := hid (show Var w7 b2 (pcel p) 23 by rw [← hw7]; exact (HP2.out.far (p := ⟨b3, 3, none⟩) HN.out _).far (p := ⟨b3, 4, none⟩) HN.out _)
    have HS7 := hid (show Var w7 b3 (cel t) 25 by rw [← hw7, HT.out]; exact (HS2.out.set (i := 3) (.int .i64 s.x)).set (i := 4) (.int .i64 s.y))
    have HR7 := hid (show Row2 w7 g ps by rw [← hw7]; exact (HR.out.far (j := 3) (Ne.symm HGB.out.1) _).far (j := 4) (Ne.symm HGB.out.1) _)
    have HG7 := hid (show g < w7.heap.size by rw [← hw7]; simpa using HG.out)
    have HB7 := hid (show Below W.heap.size W w7 by rw [← hw7]; exact (HB2.out.setCell (p := ⟨b3, 3, none⟩) HGE.out _).setCell (p := ⟨b3, 4, none⟩) HGE.out _)
    have HX := hid (show t.x = s.x ∧ t.y = s.y by rw [HT.out]; exact ⟨rfl, rfl⟩)
    clear hw7 HP2 HS2 HR HG HB2 HT
    have L2 := fun w1 (h : Below w7.heap.size w7 w1) => HP7.out.next h
    have L3 := fun w1 (h : Below w7.heap.size w7 w1) => HS7.out.next h
    rename_i Kn hKn
    refine Iv.wp_region_inv (n := 109) (TJ [some 35, some 36, some 37, some 38, some 39, some 40, some 41, some 42, some 43, some 44, some 45, some 46, some 47, some 48, some 7, some 8]
        [.pointer (some ⟨b2, 0, none⟩), .int .i64 p.x, .pointer (some ⟨b3, 3, none⟩), .int .i64 t.u, .pointer (some ⟨b3, 1, none⟩), .int .i64 t.x, .int .i64 (min (min p.x t.u) t.x), .pointer (some ⟨b2, 1, none⟩), .int .i64 p.y, .pointer (some ⟨b3, 4, none⟩), .int .i64 t.v, .pointer (some ⟨b3, 2, none⟩), .int .i64 t.y, .int .i64 (min (min p.y t.v) t.y), .int .i64 (min (min p.x t.u) t.x), .int .i64 (min (min p.y t.v) t.y)]
        [(2, .pointer (some ⟨b2, 0, none⟩)), (3, .pointer (some ⟨b3, 0, none⟩)), (5, .slice (some ⟨g, 0, none⟩) (m + 1) c)] (MB w7 [])) _ (by kernel_rfl) (by kernel_rfl) (Is.start _ rfl) ?_ ?_ ?_
    · refine ⟨fun i d _ h => (by cases h), fun q hq => ?_, MB.start w7 _ _⟩
      simp only [List.mem_cons, List.not_mem_nil, or_false] at hq
      rcases hq with rfl | rfl | rfl
      all_goals rfl
    · exact ⟨nb_val rfl rfl rfl rfl rfl fun L f wx hL hdep H => run_fld_pt0 (H.x (2, .pointer (some ⟨b2, 0, none⟩)) (by simp)),
    nb_val rfl rfl rfl rfl rfl fun L f wx hL hdep H => run_load_int (H.t 0 35 rfl (hdep ⟨0, .data⟩ (by simp) rfl)) ((L2 wx H.m.b).cell 0),
    nb_val rfl rfl rfl rfl rfl fun L f wx hL hdep H => run_fld_seg3 (H.x (3, .pointer (some ⟨b3, 0, none⟩)) (by simp)),
    nb_val rfl rfl rfl rfl rfl fun L f wx hL hdep H => run_load_int (H.t 2 37 rfl (hdep ⟨2, .data⟩ (by simp) rfl)) ((L3 wx H.m.b).cell 3),
    nb_val rfl rfl rfl rfl rfl fun L f wx hL hdep H => run_fld_seg1 (H.x (3, .pointer (some ⟨b3, 0, none⟩)) (by simp)),
    nb_val rfl rfl rfl rfl rfl fun L f wx hL hdep H => run_load_int (H.t 4 39 rfl (hdep ⟨4, .data⟩ (by simp) rfl)) ((L3 wx H.m.b).cell 1),
    nb_val rfl rfl rfl rfl rfl fun L f wx hL hdep H => run_min3 (H.t 1 36 rfl (hdep ⟨1, .data⟩ (by simp) rfl)) (H.t 3 38 rfl (hdep ⟨3, .data⟩ (by simp) rfl)) (H.t 5 40 rfl (hdep ⟨5, .data⟩ (by simp) rfl)),
    nb_val rfl rfl rfl rfl rfl fun L f wx hL hdep H => run_fld_pt1 (H.x (2, .pointer (some ⟨b2, 0, none⟩)) (by simp)),
    nb_val rfl rfl rfl rfl rfl fun L f wx hL hdep H => run_load_int (H.t 7 42 rfl (hdep ⟨7, .data⟩ (by simp) rfl)) ((L2 wx H.m.b).cell 1),
    nb_val rfl rfl rfl rfl rfl fun L f wx hL hdep H => run_fld_seg4 (H.x (3, .pointer (some ⟨b3, 0, none⟩)) (by simp)),
    nb_val rfl rfl rfl rfl rfl fun L f wx hL hdep H => run_load_int (H.t 9 44 rfl (hdep ⟨9, .data⟩ (by simp) rfl)) ((L3 wx H.m.b).cell 4),
    nb_val rfl rfl rfl rfl rfl fun L f wx hL hdep H => run_fld_seg2 (H.x (3, .pointer (some ⟨b3, 0, none⟩)) (by simp)),
    nb_val rfl rfl rfl rfl rfl fun L f wx hL hdep H => run_load_int (H.t 11 46 rfl (hdep ⟨11, .data⟩ (by simp) rfl)) ((L3 wx H.m.b).cell 2),
    nb_val rfl rfl rfl rfl rfl fun L f wx hL hdep H => run_min3 (H.t 8 43 rfl (hdep ⟨8, .data⟩ (by simp) rfl)) (H.t 10 45 rfl (hdep ⟨10, .data⟩ (by simp) rfl)) (H.t 12 47 rfl (hdep ⟨12, .data⟩ (by simp) rfl)),
    nb_val rfl rfl rfl rfl rfl fun L f wx hL hdep H => congrArg (fun v => Result.ok (Next.value v) wx) (H.t 6 41 rfl (hdep ⟨6, .data⟩ (by simp) rfl)),
    nb_val rfl rfl rfl rfl rfl fun L f wx hL hdep H => congrArg (fun v => Result.ok (Next.value v) wx) (H.t 13 48 rfl (hdep ⟨13, .data⟩ (by simp) rfl)), trivial⟩
    intro L f act w8 hall H ha
    refine hKn _ _ ?_
    have k2 : f 2 = .pointer (some ⟨b2, 0, none⟩) := H.x (2, .pointer (some ⟨b2, 0, none⟩)) (by simp)
    have k3 : f 3 = .pointer (some ⟨b3, 0, none⟩) := H.x (3, .pointer (some ⟨b3, 0, none⟩)) (by simp)
    have k5 : f 5 = .slice (some ⟨g, 0, none⟩) (m + 1) c := H.x (5, .slice (some ⟨g, 0, none⟩) (m + 1) c) (by simp)
    have k7 : f 7 = .int .i64 (min (min p.x t.u) t.x) := H.t 14 7 rfl (hall 14 (by decide))
    have k8 : f 8 = .int .i64 (min (min p.y t.v) t.y) := H.t 15 8 rfl (hall 15 (by decide))
    have HBW := hid H.m.b
    have hw := ha.whole
    rw [show ((List.range 109).map f).toArray = #[f 0, f 1, f 2, f 3, f 4, f 5, f 6, f 7, f 8, f 9, f 10, f 11, f 12, f 13, f 14, f 15, f 16, f 17, f 18, f 19, f 20, f 21, f 22, f 23, f 24, f 25, f 26, f 27, f 28, f 29, f 30, f 31, f 32, f 33, f 34, f 35, f 36, f 37, f 38, f 39, f 40, f 41, f 42, f 43, f 44, f 45, f 46, f 47, f 48, f 49, f 50, f 51, f 52, f 53, f 54, f 55, f 56, f 57, f 58, f 59, f 60, f 61, f 62, f 63, f 64, f 65, f 66, f 67, f 68, f 69, f 70, f 71, f 72, f 73, f 74, f 75, f 76, f 77, f 78, f 79, f 80, f 81, f 82, f 83, f 84, f 85, f 86, f 87, f 88, f 89, f 90, f 91, f 92, f 93, f 94, f 95, f 96, f 97, f 98, f 99, f 100, f 101, f 102, f 103, f 104, f 105, f 106, f 107, f 108] from rfl] at hw
    rw [k2, k3, k5, k7, k8] at hw
    subst hw
    clear ha H hall hKn k2 k3 k5 k7 k8 Kn
    clear L
    have HP8 := hid (HP7.out.next HBW.out)
    have HS8 := hid (HS7.out.next HBW.out)
    have HR8 := hid (HR7.out.next HG7.out HBW.out)
    have HG8 := hid (Nat.lt_of_lt_of_le HG7.out HBW.out.size)
    have HB8 := hid (below_next HB7.out HBW.out)
    clear HBW L2 L3 HP7 HS7 HR7 HG7 HB7
    go_upto_region 9 with fail
    have L2 := fun w1 (h : Below w8.heap.size w8 w1) => HP8.out.next h
    have L3 := fun w1 (h : Below w8.heap.size w8 w1) => HS8.out.next h
    rename_i Kn hKn
    refine Iv.wp_region_inv (n := 109) (TJ [some 49, some 50, some 51, some 52, some 53, some 54, some 55, some 56, some 57, some 58, some 59, some 60, some 61, some 62, some 9, some 10]
        [.pointer (some ⟨b2, 0, none⟩), .int .i64 p.x, .pointer (some ⟨b3, 3, none⟩), .int .i64 t.u, .pointer (some ⟨b3, 1, none⟩), .int .i64 t.x, .int .i64 (max (max p.x t.u) t.x), .pointer (some ⟨b2, 1, none⟩), .int .i64 p.y, .pointer (some ⟨b3, 4, none⟩), .int .i64 t.v, .pointer (some ⟨b3, 2, none⟩), .int .i64 t.y, .int .i64 (max (max p.y t.v) t.y), .int .i64 (max (max p.x t.u) t.x), .int .i64 (max (max p.y t.v) t.y)]
        [(2, .pointer (some ⟨b2, 0, none⟩)), (3, .pointer (some ⟨b3, 0, none⟩)), (5, .slice (some ⟨g, 0, none⟩) (m + 1) c), (7, .int .i64 (min (min p.x t.u) t.x)), (8, .int .i64 (min (min p.y t.v) t.y))] (MB w8 [])) _ (by kernel_rfl) (by kernel_rfl) (Is.start _ rfl) ?_ ?_ ?_
    · refine ⟨fun i d _ h => (by cases h), fun q hq => ?_, MB.start w8 _ _⟩
      simp only [List.mem_cons, List.not_mem_nil, or_false] at hq
      rcases hq with rfl | rfl | rfl | rfl | rfl
      all_goals rfl
    · exact ⟨nb_val rfl rfl rfl rfl rfl fun L f wx hL hdep H => run_fld_pt0 (H.x (2, .pointer (some ⟨b2, 0, none⟩)) (by simp)),
    nb_val rfl rfl rfl rfl rfl fun L f wx hL hdep H => run_load_int (H.t 0 49 rfl (hdep ⟨0, .data⟩ (by simp) rfl)) ((L2 wx H.m.b).cell 0),
    nb_val rfl rfl rfl rfl rfl fun L f wx hL hdep H => run_fld_seg3 (H.x (3, .pointer (some ⟨b3, 0, none⟩)) (by simp)),
    nb_val rfl rfl rfl rfl rfl fun L f wx hL hdep H => run_load_int (H.t 2 51 rfl (hdep ⟨2, .data⟩ (by simp) rfl)) ((L3 wx H.m.b).cell 3),
    nb_val rfl rfl rfl rfl rfl fun L f wx hL hdep H => run_fld_seg1 (H.x (3, .pointer (some ⟨b3, 0, none⟩)) (by simp)),
    nb_val rfl rfl rfl rfl rfl fun L f wx hL hdep H => run_load_int (H.t 4 53 rfl (hdep ⟨4, .data⟩ (by simp) rfl)) ((L3 wx H.m.b).cell 1),
    nb_val rfl rfl rfl rfl rfl fun L f wx hL hdep H => run_max3 (H.t 1 50 rfl (hdep ⟨1, .data⟩ (by simp) rfl)) (H.t 3 52 rfl (hdep ⟨3, .data⟩ (by simp) rfl)) (H.t 5 54 rfl (hdep ⟨5, .data⟩ (by simp) rfl)),
    nb_val rfl rfl rfl rfl rfl fun L f wx hL hdep H => run_fld_pt1 (H.x (2, .pointer (some ⟨b2, 0, none⟩)) (by simp)),
    nb_val rfl rfl rfl rfl rfl fun L f wx hL hdep H => run_load_int (H.t 7 56 rfl (hdep ⟨7, .data⟩ (by simp) rfl)) ((L2 wx H.m.b).cell 1),
    nb_val rfl rfl rfl rfl rfl fun L f wx hL hdep H => run_fld_seg4 (H.x (3, .pointer (some ⟨b3, 0, none⟩)) (by simp)),
    nb_val rfl rfl rfl rfl rfl fun L f wx hL hdep H => run_load_int (H.t 9 58 rfl (hdep ⟨9, .data⟩ (by simp) rfl)) ((L3 wx H.m.b).cell 4),
    nb_val rfl rfl rfl rfl rfl fun L f wx hL hdep H => run_fld_seg2 (H.x (3, .pointer (some ⟨b3, 0, none⟩)) (by simp)),
    nb_val rfl rfl rfl rfl rfl fun L f wx hL hdep H => run_load_int (H.t 11 60 rfl (hdep ⟨11, .data⟩ (by simp) rfl)) ((L3 wx H.m.b).cell 2),
    nb_val rfl rfl rfl rfl rfl fun L f wx hL hdep H => run_max3 (H.t 8 57 rfl (hdep ⟨8, .data⟩ (by simp) rfl)) (H.t 10 59 rfl (hdep ⟨10, .data⟩ (by simp) rfl)) (H.t 12 61 rfl (hdep ⟨12, .data⟩ (by simp) rfl)),
    nb_val rfl rfl rfl rfl rfl fun L f wx hL hdep H => congrArg (fun v => Result.ok (Next.value v) wx) (H.t 6 55 rfl (hdep ⟨6, .data⟩ (by simp) rfl)),
    nb_val rfl rfl rfl rfl rfl fun L f wx hL hdep H => congrArg (fun v => Result.ok (Next.value v) wx) (H.t 13 62 rfl (hdep ⟨13, .data⟩ (by simp) rfl)), trivial⟩
    intro L f act w9 hall H ha
    refine hKn _ _ ?_
    have k2 : f 2 = .pointer (some ⟨b2, 0, none⟩) := H.x (2, .pointer (some ⟨b2, 0, none⟩)) (by simp)
    have k3 : f 3 = .pointer (some ⟨b3, 0, none⟩) := H.x (3, .pointer (some ⟨b3, 0, none⟩)) (by simp)
    have k5 : f 5 = .slice (some ⟨g, 0, none⟩) (m + 1) c := H.x (5, .slice (some ⟨g, 0, none⟩) (m + 1) c) (by simp)
    have k7 : f 7 = .int .i64 (min (min p.x t.u) t.x) := H.x (7, .int .i64 (min (min p.x t.u) t.x)) (by simp)
    have k8 : f 8 = .int .i64 (min (min p.y t.v) t.y) := H.x (8, .int .i64 (min (min p.y t.v) t.y)) (by simp)
    have k9 : f 9 = .int .i64 (max (max p.x t.u) t.x) := H.t 14 9 rfl (hall 14 (by decide))
    have k10 : f 10 = .int .i64 (max (max p.y t.v) t.y) := H.t 15 10 rfl (hall 15 (by decide))
    have HBW := hid H.m.b
    have hw := ha.whole
    rw [show ((List.range 109).map f).toArray = #[f 0, f 1, f 2, f 3, f 4, f 5, f 6, f 7, f 8, f 9, f 10, f 11, f 12, f 13, f 14, f 15, f 16, f 17, f 18, f 19, f 20, f 21, f 22, f 23, f 24, f 25, f 26, f 27, f 28, f 29, f 30, f 31, f 32, f 33, f 34, f 35, f 36, f 37, f 38, f 39, f 40, f 41, f 42, f 43, f 44, f 45, f 46, f 47, f 48, f 49, f 50, f 51, f 52, f 53, f 54, f 55, f 56, f 57, f 58, f 59, f 60, f 61, f 62, f 63, f 64, f 65, f 66, f 67, f 68, f 69, f 70, f 71, f 72, f 73, f 74, f 75, f 76, f 77, f 78, f 79, f 80, f 81, f 82, f 83, f 84, f 85, f 86, f 87, f 88, f 89, f 90, f 91, f 92, f 93, f 94, f 95, f 96, f 97, f 98, f 99, f 100, f 101, f 102, f 103, f 104, f 105, f 106, f 107, f 108] from rfl] at hw
    rw [k2, k3, k5, k7, k8, k9, k10] at hw
    subst hw
    clear ha H hall hKn k2 k3 k5 k7 k8 k9 k10 Kn
    clear L
    have HP9 := hid (HP8.out.next HBW.out)
    have HS9 := hid (HS8.out.next HBW.out)
    have HR9 := hid (HR8.out.next HG8.out HBW.out)
    have HG9 := hid (Nat.lt_of_lt_of_le HG8.out HBW.out.size)
    have HB9 := hid (below_next HB8.out HBW.out)
    clear HBW L2 L3 HP8 HS8 HR8 HG8 HB8
    generalize min (min p.x t.u) t.x = xl at HH ⊢
    generalize min (min p.y t.v) t.y = yl at HH ⊢
    generalize max (max p.x t.u) t.x = xh at HH ⊢
    generalize max (max p.y t.v) t.y = yh at HH ⊢
    go_wp2_with fail
    go_loopw [65] (fun s65 wr => ∃ k : Nat, k ≤ m + 1 ∧ s65 = .int .i64 k ∧ g < wr.heap.size ∧ Hid (Row2 wr g ps) ∧ Hid (Var wr b2 (pcel p) 23) ∧ Hid (Var wr b3 (cel t) 25) ∧ Hid (Below W.heap.size W wr)) (fun s65 _ => m + 1 - (intOf s65).toNat)
    case atStart => exact ⟨0, Nat.zero_le _, rfl, HG9.out, HR9, HP9, HS9, HB9⟩
    case round =>
      obtain ⟨k, hk, rfl, hg, HR, HP, HS, HB⟩ := hrel
      clear HP9 HS9 HR9 HG9 HB9
      by_cases hlt : k < m + 1
      · have hq := List.getElem?_eq_getElem (show k < ps.length by omega)
        obtain ⟨c0, c1⟩ := HR.out k _ hq
        obtain ⟨⟨h1, h2⟩, ⟨h3, h4⟩⟩ := HH.out _ (pts_mem hq)
        clear hq
        generalize (ps[k]).x = X at c0 h1 h2
        generalize (ps[k]).y = Y at c1 h3 h4
        have t1 : decide (X < xl) = false := by simp; omega
        have t2 : decide (xh < X) = false := by simp; omega
        have t3 : decide (Y < yl) = false := by simp; omega
        have t4 : decide (yh < Y) = false := by simp; omega
        go_wp2_with fail
        go_roundw
        case rel =>
          have hbn := below_alloc (Below.refl _ wr) (.cells #[.int .i64 X, .int .i64 Y] 23)
          exact ⟨k + 1, by omega, by go_num, Nat.lt_of_lt_of_le hg hbn.size, hid (HR.out.next hg hbn), hid (HP.out.next hbn), hid (HS.out.next hbn), hid (below_next HB.out hbn)⟩
        case measure => simp [intOf]; omega
      · go_upto_region 16 with fail
        rename_i Kn hKn
        have hkm : k = m + 1 := by omega
        subst hkm
        clear hlt
        refine wp_region_fan 17 1000 (Over wr) (by kernel_rfl) (by kernel_rfl) (Over.start wr) ?_
        simp only [List.take_succ_cons, List.take_zero, List.drop_succ_cons, List.drop_zero]
        have L3 := fun v w1 (h : Over wr v w1) => Over.var HS.out h
        refine WalksE.sound _ _ _ _ ?_ (((Is.start _ (n := 109) rfl).pin 3 (v := .pointer (some ⟨b3, 0, none⟩)) rfl).pin 5 (v := .slice (some ⟨g, 0, none⟩) (m + 1) c) rfl)
        generalize (fun i => Array.getD _ i undef) = gfn
        refine walks_with fun KQ hKQ => ?_
        (refine walks_one fun K hK => ?_); refine st_pure rfl rfl (fun _ => rfl) ?_; refine hK _ ?_; clear hK K
        (refine walks_one fun K hK => ?_); refine st_pure rfl rfl (fun _ => run_len rfl) ?_; refine hK _ ?_; clear hK K
        (refine walks_one fun K hK => ?_); refine st_pure (v := .bool true) rfl rfl (fun _ => run_gt0 rfl rfl (by omega)) ?_; refine hK _ ?_; clear hK K
        (refine walks_one fun K hK => ?_); refine st_pure rfl rfl (fun _ => rfl) ?_; refine hK _ ?_; clear hK K
        (refine walks_one fun K hK => ?_); refine st_pure rfl rfl (fun _ => rfl) ?_; refine hK _ ?_; clear hK K
        (refine walks_one fun K hK => ?_); refine st_pure rfl rfl (fun _ => rfl) ?_; refine hK _ ?_; clear hK K
        (refine walks_one fun K hK => ?_); refine st_pure rfl rfl (fun _ => run_len rfl) ?_; refine hK _ ?_; clear hK K
        (refine walks_one fun K hK => ?_); refine st_pure (v := .int .i64 m) rfl rfl (fun _ => (run_sub rfl rfl (by unfold Rg; omega)).trans (by rw [show ((m + 1 : Nat) : Int) - 1 = m by omega])) ?_; refine hK _ ?_; clear hK K
        (refine walks_one fun K hK => ?_); refine st_pure (v := .pointer (some ⟨g, m * 2, none⟩)) rfl rfl (fun _ => (run_indexPt (a := ⟨g, 0, none⟩) (j := m) rfl rfl (by omega) (by omega)).trans (by rw [addr0, Int.toNat_natCast])) ?_; refine hK _ ?_; clear hK K
        (refine walks_one fun K hK => ?_); refine st_read rfl rfl (fun _ _ h => run_ptAt (p := ⟨s.x, s.y⟩) rfl ((HR.out.next hg h) m _ hlast).1 ((HR.out.next hg h) m _ hlast).2) ?_; refine hK _ ?_; clear hK K
        (refine walks_one fun K hK => ?_); refine st_pure rfl rfl (fun _ => rfl) ?_; refine hK _ ?_; clear hK K
        (refine walks_one fun K hK => ?_); refine st_read (v := .int .i64 s.x) rfl rfl (fun _ _ h => run_load_int rfl (((L3 _ _ h).cell 1).trans (by rw [← HX.out.1]; rfl))) ?_; refine hK _ ?_; clear hK K
        (refine walks_one fun K hK => ?_); refine st_pure rfl rfl (fun _ => rfl) ?_; refine hK _ ?_; clear hK K
        (refine walks_one fun K hK => ?_); refine st_read (v := .int .i64 s.y) rfl rfl (fun _ _ h => run_load_int rfl (((L3 _ _ h).cell 2).trans (by rw [← HX.out.2]; rfl))) ?_; refine hK _ ?_; clear hK K
        (refine walks_one fun K hK => ?_); refine st_pure rfl rfl (fun _ => run_buildPt rfl rfl) ?_; refine hK _ ?_; clear hK K
        (refine walks_one fun K hK => ?_); refine st_pure (v := .bool true) rfl rfl (fun _ => run_eqPt (p := ⟨s.x, s.y⟩) rfl rfl) ?_; refine hK _ ?_; clear hK K
        (refine walks_one fun K hK => ?_); refine st_pure (v := .bool true) rfl rfl (fun _ => rfl) ?_; refine hK _ ?_; clear hK K
        refine walks_end fun a9 ha9 => hKQ _ fun w1 hC => ?_
        refine sq_val (v := .bool true) ha9 rfl rfl fun a10 ha10 => ?_
        refine wpList_nil ?_
        refine hKn _ _ ?_
        obtain ⟨g9, hg9, k4⟩ : ∃ g9, Is a10 109 g9 ∧ g9 4 = .bool true := ⟨_, ha10, rfl⟩
        have hw := hg9.whole
        rw [show ((List.range 109).map g9).toArray = #[g9 0, g9 1, g9 2, g9 3, g9 4, g9 5, g9 6, g9 7, g9 8, g9 9, g9 10, g9 11, g9 12, g9 13, g9 14, g9 15, g9 16, g9 17, g9 18, g9 19, g9 20, g9 21, g9 22, g9 23, g9 24, g9 25, g9 26, g9 27, g9 28, g9 29, g9 30, g9 31, g9 32, g9 33, g9 34, g9 35, g9 36, g9 37, g9 38, g9 39, g9 40, g9 41, g9 42, g9 43, g9 44, g9 45, g9 46, g9 47, g9 48, g9 49, g9 50, g9 51, g9 52, g9 53, g9 54, g9 55, g9 56, g9 57, g9 58, g9 59, g9 60, g9 61, g9 62, g9 63, g9 64, g9 65, g9 66, g9 67, g9 68, g9 69, g9 70, g9 71, g9 72, g9 73, g9 74, g9 75, g9 76, g9 77, g9 78, g9 79, g9 80, g9 81, g9 82, g9 83, g9 84, g9 85, g9 86, g9 87, g9 88, g9 89, g9 90, g9 91, g9 92, g9 93, g9 94, g9 95, g9 96, g9 97, g9 98, g9 99, g9 100, g9 101, g9 102, g9 103, g9 104, g9 105, g9 106, g9 107, g9 108] from rfl] at hw
        rw [k4] at hw
        subst hw
        clear hg9 k4
        have HBX := hid (below_next HB.out hC)
        clear ha9 ha10 hC L3 hKQ KQ hKn Kn
        go_wp2_with fail
        go_ret
        exact ⟨rfl, HBX.out⟩
  · have HT := hid ht
    clear ht
    go_upto_region 8 with fail
    clear p0 p1 p2 p3 p4 p5 pf
    have HP7 := HP2
    have HS7 := hid (show Var w2 b3 (cel t) 25 by rw [HT.out]; exact HS2.out)
    have HR7 := HR
    have HG7 := HG
    have HB7 := HB2
    have HX := hid (show t.x = s.x ∧ t.y = s.y by rw [HT.out]; exact ⟨rfl, rfl⟩)
    clear HP2 HS2 HR HG HB2 HT
    have L2 := fun w1 (h : Below w2.heap.size w2 w1) => HP7.out.next h
    have L3 := fun w1 (h : Below w2.heap.size w2 w1) => HS7.out.next h
    rename_i Kn hKn
    refine Iv.wp_region_inv (n := 109) (TJ [some 35, some 36, some 37, some 38, some 39, some 40, some 41, some 42, some 43, some 44, some 45, some 46, some 47, some 48, some 7, some 8]
        [.pointer (some ⟨b2, 0, none⟩), .int .i64 p.x, .pointer (some ⟨b3, 3, none⟩), .int .i64 t.u, .pointer (some ⟨b3, 1, none⟩), .int .i64 t.x, .int .i64 (min (min p.x t.u) t.x), .pointer (some ⟨b2, 1, none⟩), .int .i64 p.y, .pointer (some ⟨b3, 4, none⟩), .int .i64 t.v, .pointer (some ⟨b3, 2, none⟩), .int .i64 t.y, .int .i64 (min (min p.y t.v) t.y), .int .i64 (min (min p.x t.u) t.x), .int .i64 (min (min p.y t.v) t.y)]
        [(2, .pointer (some ⟨b2, 0, none⟩)), (3, .pointer (some ⟨b3, 0, none⟩)), (5, .slice (some ⟨g, 0, none⟩) (m + 1) c)] (MB w2 [])) _ (by kernel_rfl) (by kernel_rfl) (Is.start _ rfl) ?_ ?_ ?_
    · refine ⟨fun i d _ h => (by cases h), fun q hq => ?_, MB.start w2 _ _⟩
      simp only [List.mem_cons, List.not_mem_nil, or_false] at hq
      rcases hq with rfl | rfl | rfl
      all_goals rfl
    · exact ⟨nb_val rfl rfl rfl rfl rfl fun L f wx hL hdep H => run_fld_pt0 (H.x (2, .pointer (some ⟨b2, 0, none⟩)) (by simp)),
    nb_val rfl rfl rfl rfl rfl fun L f wx hL hdep H => run_load_int (H.t 0 35 rfl (hdep ⟨0, .data⟩ (by simp) rfl)) ((L2 wx H.m.b).cell 0),
    nb_val rfl rfl rfl rfl rfl fun L f wx hL hdep H => run_fld_seg3 (H.x (3, .pointer (some ⟨b3, 0, none⟩)) (by simp)),
    nb_val rfl rfl rfl rfl rfl fun L f wx hL hdep H => run_load_int (H.t 2 37 rfl (hdep ⟨2, .data⟩ (by simp) rfl)) ((L3 wx H.m.b).cell 3),
    nb_val rfl rfl rfl rfl rfl fun L f wx hL hdep H => run_fld_seg1 (H.x (3, .pointer (some ⟨b3, 0, none⟩)) (by simp)),
    nb_val rfl rfl rfl rfl rfl fun L f wx hL hdep H => run_load_int (H.t 4 39 rfl (hdep ⟨4, .data⟩ (by simp) rfl)) ((L3 wx H.m.b).cell 1),
    nb_val rfl rfl rfl rfl rfl fun L f wx hL hdep H => run_min3 (H.t 1 36 rfl (hdep ⟨1, .data⟩ (by simp) rfl)) (H.t 3 38 rfl (hdep ⟨3, .data⟩ (by simp) rfl)) (H.t 5 40 rfl (hdep ⟨5, .data⟩ (by simp) rfl)),
    nb_val rfl rfl rfl rfl rfl fun L f wx hL hdep H => run_fld_pt1 (H.x (2, .pointer (some ⟨b2, 0, none⟩)) (by simp)),
    nb_val rfl rfl rfl rfl rfl fun L f wx hL hdep H => run_load_int (H.t 7 42 rfl (hdep ⟨7, .data⟩ (by simp) rfl)) ((L2 wx H.m.b).cell 1),
    nb_val rfl rfl rfl rfl rfl fun L f wx hL hdep H => run_fld_seg4 (H.x (3, .pointer (some ⟨b3, 0, none⟩)) (by simp)),
    nb_val rfl rfl rfl rfl rfl fun L f wx hL hdep H => run_load_int (H.t 9 44 rfl (hdep ⟨9, .data⟩ (by simp) rfl)) ((L3 wx H.m.b).cell 4),
    nb_val rfl rfl rfl rfl rfl fun L f wx hL hdep H => run_fld_seg2 (H.x (3, .pointer (some ⟨b3, 0, none⟩)) (by simp)),
    nb_val rfl rfl rfl rfl rfl fun L f wx hL hdep H => run_load_int (H.t 11 46 rfl (hdep ⟨11, .data⟩ (by simp) rfl)) ((L3 wx H.m.b).cell 2),
    nb_val rfl rfl rfl rfl rfl fun L f wx hL hdep H => run_min3 (H.t 8 43 rfl (hdep ⟨8, .data⟩ (by simp) rfl)) (H.t 10 45 rfl (hdep ⟨10, .data⟩ (by simp) rfl)) (H.t 12 47 rfl (hdep ⟨12, .data⟩ (by simp) rfl)),
    nb_val rfl rfl rfl rfl rfl fun L f wx hL hdep H => congrArg (fun v => Result.ok (Next.value v) wx) (H.t 6 41 rfl (hdep ⟨6, .data⟩ (by simp) rfl)),
    nb_val rfl rfl rfl rfl rfl fun L f wx hL hdep H => congrArg (fun v => Result.ok (Next.value v) wx) (H.t 13 48 rfl (hdep ⟨13, .data⟩ (by simp) rfl)), trivial⟩
    intro L f act w8 hall H ha
    refine hKn _ _ ?_
    have k2 : f 2 = .pointer (some ⟨b2, 0, none⟩) := H.x (2, .pointer (some ⟨b2, 0, none⟩)) (by simp)
    have k3 : f 3 = .pointer (some ⟨b3, 0, none⟩) := H.x (3, .pointer (some ⟨b3, 0, none⟩)) (by simp)
    have k5 : f 5 = .slice (some ⟨g, 0, none⟩) (m + 1) c := H.x (5, .slice (some ⟨g, 0, none⟩) (m + 1) c) (by simp)
    have k7 : f 7 = .int .i64 (min (min p.x t.u) t.x) := H.t 14 7 rfl (hall 14 (by decide))
    have k8 : f 8 = .int .i64 (min (min p.y t.v) t.y) := H.t 15 8 rfl (hall 15 (by decide))
    have HBW := hid H.m.b
    have hw := ha.whole
    rw [show ((List.range 109).map f).toArray = #[f 0, f 1, f 2, f 3, f 4, f 5, f 6, f 7, f 8, f 9, f 10, f 11, f 12, f 13, f 14, f 15, f 16, f 17, f 18, f 19, f 20, f 21, f 22, f 23, f 24, f 25, f 26, f 27, f 28, f 29, f 30, f 31, f 32, f 33, f 34, f 35, f 36, f 37, f 38, f 39, f 40, f 41, f 42, f 43, f 44, f 45, f 46, f 47, f 48, f 49, f 50, f 51, f 52, f 53, f 54, f 55, f 56, f 57, f 58, f 59, f 60, f 61, f 62, f 63, f 64, f 65, f 66, f 67, f 68, f 69, f 70, f 71, f 72, f 73, f 74, f 75, f 76, f 77, f 78, f 79, f 80, f 81, f 82, f 83, f 84, f 85, f 86, f 87, f 88, f 89, f 90, f 91, f 92, f 93, f 94, f 95, f 96, f 97, f 98, f 99, f 100, f 101, f 102, f 103, f 104, f 105, f 106, f 107, f 108] from rfl] at hw
    rw [k2, k3, k5, k7, k8] at hw
    subst hw
    clear ha H hall hKn k2 k3 k5 k7 k8 Kn
    clear L
    have HP8 := hid (HP7.out.next HBW.out)
    have HS8 := hid (HS7.out.next HBW.out)
    have HR8 := hid (HR7.out.next HG7.out HBW.out)
    have HG8 := hid (Nat.lt_of_lt_of_le HG7.out HBW.out.size)
    have HB8 := hid (below_next HB7.out HBW.out)
    clear HBW L2 L3 HP7 HS7 HR7 HG7 HB7
    go_upto_region 9 with fail
    have L2 := fun w1 (h : Below w8.heap.size w8 w1) => HP8.out.next h
    have L3 := fun w1 (h : Below w8.heap.size w8 w1) => HS8.out.next h
    rename_i Kn hKn
    refine Iv.wp_region_inv (n := 109) (TJ [some 49, some 50, some 51, some 52, some 53, some 54, some 55, some 56, some 57, some 58, some 59, some 60, some 61, some 62, some 9, some 10]
        [.pointer (some ⟨b2, 0, none⟩), .int .i64 p.x, .pointer (some ⟨b3, 3, none⟩), .int .i64 t.u, .pointer (some ⟨b3, 1, none⟩), .int .i64 t.x, .int .i64 (max (max p.x t.u) t.x), .pointer (some ⟨b2, 1, none⟩), .int .i64 p.y, .pointer (some ⟨b3, 4, none⟩), .int .i64 t.v, .pointer (some ⟨b3, 2, none⟩), .int .i64 t.y, .int .i64 (max (max p.y t.v) t.y), .int .i64 (max (max p.x t.u) t.x), .int .i64 (max (max p.y t.v) t.y)]
        [(2, .pointer (some ⟨b2, 0, none⟩)), (3, .pointer (some ⟨b3, 0, none⟩)), (5, .slice (some ⟨g, 0, none⟩) (m + 1) c), (7, .int .i64 (min (min p.x t.u) t.x)), (8, .int .i64 (min (min p.y t.v) t.y))] (MB w8 [])) _ (by kernel_rfl) (by kernel_rfl) (Is.start _ rfl) ?_ ?_ ?_
    · refine ⟨fun i d _ h => (by cases h), fun q hq => ?_, MB.start w8 _ _⟩
      simp only [List.mem_cons, List.not_mem_nil, or_false] at hq
      rcases hq with rfl | rfl | rfl | rfl | rfl
      all_goals rfl
    · exact ⟨nb_val rfl rfl rfl rfl rfl fun L f wx hL hdep H => run_fld_pt0 (H.x (2, .pointer (some ⟨b2, 0, none⟩)) (by simp)),
    nb_val rfl rfl rfl rfl rfl fun L f wx hL hdep H => run_load_int (H.t 0 49 rfl (hdep ⟨0, .data⟩ (by simp) rfl)) ((L2 wx H.m.b).cell 0),
    nb_val rfl rfl rfl rfl rfl fun L f wx hL hdep H => run_fld_seg3 (H.x (3, .pointer (some ⟨b3, 0, none⟩)) (by simp)),
    nb_val rfl rfl rfl rfl rfl fun L f wx hL hdep H => run_load_int (H.t 2 51 rfl (hdep ⟨2, .data⟩ (by simp) rfl)) ((L3 wx H.m.b).cell 3),
    nb_val rfl rfl rfl rfl rfl fun L f wx hL hdep H => run_fld_seg1 (H.x (3, .pointer (some ⟨b3, 0, none⟩)) (by simp)),
    nb_val rfl rfl rfl rfl rfl fun L f wx hL hdep H => run_load_int (H.t 4 53 rfl (hdep ⟨4, .data⟩ (by simp) rfl)) ((L3 wx H.m.b).cell 1),
    nb_val rfl rfl rfl rfl rfl fun L f wx hL hdep H => run_max3 (H.t 1 50 rfl (hdep ⟨1, .data⟩ (by simp) rfl)) (H.t 3 52 rfl (hdep ⟨3, .data⟩ (by simp) rfl)) (H.t 5 54 rfl (hdep ⟨5, .data⟩ (by simp) rfl)),
    nb_val rfl rfl rfl rfl rfl fun L f wx hL hdep H => run_fld_pt1 (H.x (2, .pointer (some ⟨b2, 0, none⟩)) (by simp)),
    nb_val rfl rfl rfl rfl rfl fun L f wx hL hdep H => run_load_int (H.t 7 56 rfl (hdep ⟨7, .data⟩ (by simp) rfl)) ((L2 wx H.m.b).cell 1),
    nb_val rfl rfl rfl rfl rfl fun L f wx hL hdep H => run_fld_seg4 (H.x (3, .pointer (some ⟨b3, 0, none⟩)) (by simp)),
    nb_val rfl rfl rfl rfl rfl fun L f wx hL hdep H => run_load_int (H.t 9 58 rfl (hdep ⟨9, .data⟩ (by simp) rfl)) ((L3 wx H.m.b).cell 4),
    nb_val rfl rfl rfl rfl rfl fun L f wx hL hdep H => run_fld_seg2 (H.x (3, .pointer (some ⟨b3, 0, none⟩)) (by simp)),
    nb_val rfl rfl rfl rfl rfl fun L f wx hL hdep H => run_load_int (H.t 11 60 rfl (hdep ⟨11, .data⟩ (by simp) rfl)) ((L3 wx H.m.b).cell 2),
    nb_val rfl rfl rfl rfl rfl fun L f wx hL hdep H => run_max3 (H.t 8 57 rfl (hdep ⟨8, .data⟩ (by simp) rfl)) (H.t 10 59 rfl (hdep ⟨10, .data⟩ (by simp) rfl)) (H.t 12 61 rfl (hdep ⟨12, .data⟩ (by simp) rfl)),
    nb_val rfl rfl rfl rfl rfl fun L f wx hL hdep H => congrArg (fun v => Result.ok (Next.value v) wx) (H.t 6 55 rfl (hdep ⟨6, .data⟩ (by simp) rfl)),
    nb_val rfl rfl rfl rfl rfl fun L f wx hL hdep H => congrArg (fun v => Result.ok (Next.value v) wx) (H.t 13 62 rfl (hdep ⟨13, .data⟩ (by simp) rfl)), trivial⟩
    intro L f act w9 hall H ha
    refine hKn _ _ ?_
    have k2 : f 2 = .pointer (some ⟨b2, 0, none⟩) := H.x (2, .pointer (some ⟨b2, 0, none⟩)) (by simp)
    have k3 : f 3 = .pointer (some ⟨b3, 0, none⟩) := H.x (3, .pointer (some ⟨b3, 0, none⟩)) (by simp)
    have k5 : f 5 = .slice (some ⟨g, 0, none⟩) (m + 1) c := H.x (5, .slice (some ⟨g, 0, none⟩) (m + 1) c) (by simp)
    have k7 : f 7 = .int .i64 (min (min p.x t.u) t.x) := H.x (7, .int .i64 (min (min p.x t.u) t.x)) (by simp)
    have k8 : f 8 = .int .i64 (min (min p.y t.v) t.y) := H.x (8, .int .i64 (min (min p.y t.v) t.y)) (by simp)
    have k9 : f 9 = .int .i64 (max (max p.x t.u) t.x) := H.t 14 9 rfl (hall 14 (by decide))
    have k10 : f 10 = .int .i64 (max (max p.y t.v) t.y) := H.t 15 10 rfl (hall 15 (by decide))
    have HBW := hid H.m.b
    have hw := ha.whole
    rw [show ((List.range 109).map f).toArray = #[f 0, f 1, f 2, f 3, f 4, f 5, f 6, f 7, f 8, f 9, f 10, f 11, f 12, f 13, f 14, f 15, f 16, f 17, f 18, f 19, f 20, f 21, f 22, f 23, f 24, f 25, f 26, f 27, f 28, f 29, f 30, f 31, f 32, f 33, f 34, f 35, f 36, f 37, f 38, f 39, f 40, f 41, f 42, f 43, f 44, f 45, f 46, f 47, f 48, f 49, f 50, f 51, f 52, f 53, f 54, f 55, f 56, f 57, f 58, f 59, f 60, f 61, f 62, f 63, f 64, f 65, f 66, f 67, f 68, f 69, f 70, f 71, f 72, f 73, f 74, f 75, f 76, f 77, f 78, f 79, f 80, f 81, f 82, f 83, f 84, f 85, f 86, f 87, f 88, f 89, f 90, f 91, f 92, f 93, f 94, f 95, f 96, f 97, f 98, f 99, f 100, f 101, f 102, f 103, f 104, f 105, f 106, f 107, f 108] from rfl] at hw
    rw [k2, k3, k5, k7, k8, k9, k10] at hw
    subst hw
    clear ha H hall hKn k2 k3 k5 k7 k8 k9 k10 Kn
    clear L
    have HP9 := hid (HP8.out.next HBW.out)
    have HS9 := hid (HS8.out.next HBW.out)
    have HR9 := hid (HR8.out.next HG8.out HBW.out)
    have HG9 := hid (Nat.lt_of_lt_of_le HG8.out HBW.out.size)
    have HB9 := hid (below_next HB8.out HBW.out)
    clear HBW L2 L3 HP8 HS8 HR8 HG8 HB8
    generalize min (min p.x t.u) t.x = xl at HH ⊢
    generalize min (min p.y t.v) t.y = yl at HH ⊢
    generalize max (max p.x t.u) t.x = xh at HH ⊢
    generalize max (max p.y t.v) t.y = yh at HH ⊢
    go_wp2_with fail
    go_loopw [65] (fun s65 wr => ∃ k : Nat, k ≤ m + 1 ∧ s65 = .int .i64 k ∧ g < wr.heap.size ∧ Hid (Row2 wr g ps) ∧ Hid (Var wr b2 (pcel p) 23) ∧ Hid (Var wr b3 (cel t) 25) ∧ Hid (Below W.heap.size W wr)) (fun s65 _ => m + 1 - (intOf s65).toNat)
    case atStart => exact ⟨0, Nat.zero_le _, rfl, HG9.out, HR9, HP9, HS9, HB9⟩
    case round =>
      obtain ⟨k, hk, rfl, hg, HR, HP, HS, HB⟩ := hrel
      clear HP9 HS9 HR9 HG9 HB9
      by_cases hlt : k < m + 1
      · have hq := List.getElem?_eq_getElem (show k < ps.length by omega)
        obtain ⟨c0, c1⟩ := HR.out k _ hq
        obtain ⟨⟨h1, h2⟩, ⟨h3, h4⟩⟩ := HH.out _ (pts_mem hq)
        clear hq
        generalize (ps[k]).x = X at c0 h1 h2
        generalize (ps[k]).y = Y at c1 h3 h4
        have t1 : decide (X < xl) = false := by simp; omega
        have t2 : decide (xh < X) = false := by simp; omega
        have t3 : decide (Y < yl) = false := by simp; omega
        have t4 : decide (yh < Y) = false := by simp; omega
        go_wp2_with fail
        go_roundw
        case rel =>
          have hbn := below_alloc (Below.refl _ wr) (.cells #[.int .i64 X, .int .i64 Y] 23)
          exact ⟨k + 1, by omega, by go_num, Nat.lt_of_lt_of_le hg hbn.size, hid (HR.out.next hg hbn), hid (HP.out.next hbn), hid (HS.out.next hbn), hid (below_next HB.out hbn)⟩
        case measure => simp [intOf]; omega
      · go_upto_region 16 with fail
        rename_i Kn hKn
        have hkm : k = m + 1 := by omega
        subst hkm
        clear hlt
        refine wp_region_fan 17 1000 (Over wr) (by kernel_rfl) (by kernel_rfl) (Over.start wr) ?_
        simp only [List.take_succ_cons, List.take_zero, List.drop_succ_cons, List.drop_zero]
        have L3 := fun v w1 (h : Over wr v w1) => Over.var HS.out h
        refine WalksE.sound _ _ _ _ ?_ (((Is.start _ (n := 109) rfl).pin 3 (v := .pointer (some ⟨b3, 0, none⟩)) rfl).pin 5 (v := .slice (some ⟨g, 0, none⟩) (m + 1) c) rfl)
        generalize (fun i => Array.getD _ i undef) = gfn
        refine walks_with fun KQ hKQ => ?_
        (refine walks_one fun K hK => ?_); refine st_pure rfl rfl (fun _ => rfl) ?_; refine hK _ ?_; clear hK K
        (refine walks_one fun K hK => ?_); refine st_pure rfl rfl (fun _ => run_len rfl) ?_; refine hK _ ?_; clear hK K
        (refine walks_one fun K hK => ?_); refine st_pure (v := .bool true) rfl rfl (fun _ => run_gt0 rfl rfl (by omega)) ?_; refine hK _ ?_; clear hK K
        (refine walks_one fun K hK => ?_); refine st_pure rfl rfl (fun _ => rfl) ?_; refine hK _ ?_; clear hK K
        (refine walks_one fun K hK => ?_); refine st_pure rfl rfl (fun _ => rfl) ?_; refine hK _ ?_; clear hK K
        (refine walks_one fun K hK => ?_); refine st_pure rfl rfl (fun _ => rfl) ?_; refine hK _ ?_; clear hK K
        (refine walks_one fun K hK => ?_); refine st_pure rfl rfl (fun _ => run_len rfl) ?_; refine hK _ ?_; clear hK K
        (refine walks_one fun K hK => ?_); refine st_pure (v := .int .i64 m) rfl rfl (fun _ => (run_sub rfl rfl (by unfold Rg; omega)).trans (by rw [show ((m + 1 : Nat) : Int) - 1 = m by omega])) ?_; refine hK _ ?_; clear hK K
        (refine walks_one fun K hK => ?_); refine st_pure (v := .pointer (some ⟨g, m * 2, none⟩)) rfl rfl (fun _ => (run_indexPt (a := ⟨g, 0, none⟩) (j := m) rfl rfl (by omega) (by omega)).trans (by rw [addr0, Int.toNat_natCast])) ?_; refine hK _ ?_; clear hK K
        (refine walks_one fun K hK => ?_); refine st_read rfl rfl (fun _ _ h => run_ptAt (p := ⟨s.x, s.y⟩) rfl ((HR.out.next hg h) m _ hlast).1 ((HR.out.next hg h) m _ hlast).2) ?_; refine hK _ ?_; clear hK K
        (refine walks_one fun K hK => ?_); refine st_pure rfl rfl (fun _ => rfl) ?_; refine hK _ ?_; clear hK K
        (refine walks_one fun K hK => ?_); refine st_read (v := .int .i64 s.x) rfl rfl (fun _ _ h => run_load_int rfl (((L3 _ _ h).cell 1).trans (by rw [← HX.out.1]; rfl))) ?_; refine hK _ ?_; clear hK K
        (refine walks_one fun K hK => ?_); refine st_pure rfl rfl (fun _ => rfl) ?_; refine hK _ ?_; clear hK K
        (refine walks_one fun K hK => ?_); refine st_read (v := .int .i64 s.y) rfl rfl (fun _ _ h => run_load_int rfl (((L3 _ _ h).cell 2).trans (by rw [← HX.out.2]; rfl))) ?_; refine hK _ ?_; clear hK K
        (refine walks_one fun K hK => ?_); refine st_pure rfl rfl (fun _ => run_buildPt rfl rfl) ?_; refine hK _ ?_; clear hK K
        (refine walks_one fun K hK => ?_); refine st_pure (v := .bool true) rfl rfl (fun _ => run_eqPt (p := ⟨s.x, s.y⟩) rfl rfl) ?_; refine hK _ ?_; clear hK K
        (refine walks_one fun K hK => ?_); refine st_pure (v := .bool true) rfl rfl (fun _ => rfl) ?_; refine hK _ ?_; clear hK K
        refine walks_end fun a9 ha9 => hKQ _ fun w1 hC => ?_
        refine sq_val (v := .bool true) ha9 rfl rfl fun a10 ha10 => ?_
        refine wpList_nil ?_
        refine hKn _ _ ?_
        obtain ⟨g9, hg9, k4⟩ : ∃ g9, Is a10 109 g9 ∧ g9 4 = .bool true := ⟨_, ha10, rfl⟩
        have hw := hg9.whole
        rw [show ((List.range 109).map g9).toArray = #[g9 0, g9 1, g9 2, g9 3, g9 4, g9 5, g9 6, g9 7, g9 8, g9 9, g9 10, g9 11, g9 12, g9 13, g9 14, g9 15, g9 16, g9 17, g9 18, g9 19, g9 20, g9 21, g9 22, g9 23, g9 24, g9 25, g9 26, g9 27, g9 28, g9 29, g9 30, g9 31, g9 32, g9 33, g9 34, g9 35, g9 36, g9 37, g9 38, g9 39, g9 40, g9 41, g9 42, g9 43, g9 44, g9 45, g9 46, g9 47, g9 48, g9 49, g9 50, g9 51, g9 52, g9 53, g9 54, g9 55, g9 56, g9 57, g9 58, g9 59, g9 60, g9 61, g9 62, g9 63, g9 64, g9 65, g9 66, g9 67, g9 68, g9 69, g9 70, g9 71, g9 72, g9 73, g9 74, g9 75, g9 76, g9 77, g9 78, g9 79, g9 80, g9 81, g9 82, g9 83, g9 84, g9 85, g9 86, g9 87, g9 88, g9 89, g9 90, g9 91, g9 92, g9 93, g9 94, g9 95, g9 96, g9 97, g9 98, g9 99, g9 100, g9 101, g9 102, g9 103, g9 104, g9 105, g9 106, g9 107, g9 108] from rfl] at hw
        rw [k4] at hw
        subst hw
        clear hg9 k4
        have HBX := hid (below_next HB.out hC)
        clear ha9 ha10 hC L3 hKQ KQ hKn Kn
        go_wp2_with fail
        go_ret
        exact ⟨rfl, HBX.out⟩

theorem bad (p : P2) (s : Sg) (W : World) (h : ptE p s ≠ 0) : Calls Try.prog 3 #[ptv p, seg s] W fun e w' => e = .returned (.bool true) ∧ Below W.heap.size W w' := by
  have HA := fun w => hid (points_any p s w)
  have hq : ptP p s = [] := if_neg h
  rw [hq] at HA
  generalize ptE p s = E at h HA
  have hne : (E != 0) = true := by simp [h]
  clear h hq
  obtain ⟨w0, hw0⟩ : ∃ w0, w0 = (W.alloc (.cells (pcel p) 23)).alloc (.cells (cel s) 25) := ⟨_, rfl⟩
  have HP := hid (show Var w0 W.heap.size (pcel p) 23 by rw [hw0]; exact (Var.new W _ _ _ rfl).alloc _)
  have HS := hid (show Var w0 (W.heap.size + 1) (cel s) 25 by rw [hw0]; exact Var.new (W.alloc _) _ _ _ (by simp))
  have HB := hid (show Below W.heap.size W w0 by rw [hw0]; exact below_alloc (below_alloc (Below.refl _ W) _) _)
  go_enter Try.func3, Try.ntmps3
  go_upto_region 1 with fail
  rw [← hw0]
  clear hw0
  go_wp2_with fail
  (with_reducible refine (arcs_any _).mono ?_); rintro e w1 ⟨rfl, hb⟩
  have HP1 := hid (HP.out.next hb)
  have HS1 := hid (HS.out.next hb)
  have HB1 := hid (below_next HB.out hb)
  clear hb HP HS HB
  obtain ⟨p0, p1, p2, p3, p4, p5, pf⟩ := HS1.out.read6
  obtain ⟨q0, q1, qf⟩ := HP1.out.read2
  go_wp2_with fail
  clear p0 p1 p2 p3 p4 p5 pf q0 q1 qf
  (with_reducible refine (HA _).out.mono ?_); rintro e w2 ⟨v, rfl, ho, hb⟩
  have HB2 := hid (below_next HB1.out hb)
  have hv : v = .slice none 0 0 ∨ ∃ g c, v = .slice (some ⟨g, 0, none⟩) 0 c := by
    rcases ho.2 with ⟨h0, _⟩ | ⟨g, cap, cur, h0, _⟩
    · exact .inl h0
    · exact .inr ⟨g, cap, h0⟩
  clear ho hb HA HP1 HS1 HB1
  rcases hv with rfl | ⟨g, c, rfl⟩
  all_goals
    go_wp2_with fail
    go_ret
    exact ⟨rfl, HB2.out⟩
theorem rest (x0_0 x0_1 x1_0 x1_1 x1_2 x1_3 x1_4 x1_5 : Int) (W : World) : Calls Try.prog 3 #[.agg #[.int .i64 x0_0, .int .i64 x0_1], .agg #[.int .i64 x1_0, .int .i64 x1_1, .int .i64 x1_2, .int .i64 x1_3, .int .i64 x1_4, .int .i64 x1_5]] W fun e w' => e = .returned (.bool true) ∧ Below W.heap.size W w' := by
  by_cases h : ptE ⟨x0_0, x0_1⟩ ⟨x1_0, x1_1, x1_2, x1_3, x1_4, x1_5⟩ = 0
  · exact core ⟨x0_0, x0_1⟩ ⟨x1_0, x1_1, x1_2, x1_3, x1_4, x1_5⟩ W h
  · exact bad ⟨x0_0, x0_1⟩ ⟨x1_0, x1_1, x1_2, x1_3, x1_4, x1_5⟩ W h

set_option maxRecDepth 100000 in
theorem lifted (os : Os) (started : os.Started) (H : Type) (enc : TypeId × Value → H) :
    ReturnsInHanded {} Try.checked os 3 .any (Rows.conicWithinHullSpec.pre6 enc Try.prog Try.f3 Rows.conicWithinHullRow.domain false) (Rows.conicWithinHullSpec.post enc Try.prog Try.f3 false true false false) := by
  refine returnsInHanded_of_change (C := Try.checked) own started (by kernel_rfl) Try.func3
    (ChangeSpec.witness6 (enc := enc) (C := Try.checked) false ⟨#[], #[.agg #[.int .i64 0, .int .i64 0], .agg #[.int .i64 0, .int .i64 0, .int .i64 0, .int .i64 0, .int .i64 0, .int .i64 0]], []⟩ 8 (by kernel_rfl) (by kernel_rfl) (by kernel_rfl) (by kernel_rfl)) ?_
  intro W base args ds gs before hval0 hW hcnd _
  have hval : ∀ (j : Nat) t v, Try.f3.params[j]? = some t → args[j]? = some v → Value.okWide Try.prog W .any base t v := hval0
  have hW' := hW
  obtain ⟨p, q, hA0, hV, rfl, hfz, hnd⟩ := hW
  have hA : DataW.TrodAll enc Try.prog W 0 (fun _ => true) true Try.f3.params.toList args.toList ds p := hA0
  rw [Try.params3] at hA hval
  obtain ⟨v0, vs0, d0, ds0, p0, q0, hargs, rfl, rfl, h0, r0⟩ := trodAll_cons hA
  obtain ⟨v1, vs1, d1, ds1, p1, q1, rfl, rfl, rfl, h1, r1⟩ := trodAll_cons r0
  obtain ⟨rfl, rfl, rfl⟩ := trodAll_nil r1
  obtain rfl : args = #[v0, v1] := by cases args; simp_all
  obtain ⟨rfl, rfl⟩ := trodVars_none hV
  have k0 := h0
  have lt0 : ∀ x ∈ p0, x.block < W.heap.size := by obtain ⟨m, hm⟩ := k0; exact DataW.trod_lt m _ _ _ hm
  obtain ⟨x0_0, x0_1, rfl⟩ := open_pt Try.underlying23 (by kernel_rfl) (by kernel_rfl) (by kernel_rfl) (hval 0 23 v0 rfl rfl) h0
  have k1 := h1
  have lt1 : ∀ x ∈ p1, x.block < W.heap.size := by obtain ⟨m, hm⟩ := k1; exact DataW.trod_lt m _ _ _ hm
  obtain ⟨x1_0, x1_1, x1_2, x1_3, x1_4, x1_5, rfl⟩ := open_mx Try.underlying25 (by kernel_rfl) (by kernel_rfl) (by kernel_rfl) (hval 1 25 v1 rfl rfl) h1
  clear hA0 hval0
  refine (rest x0_0 x0_1 x1_0 x1_1 x1_2 x1_3 x1_4 x1_5 W).mono fun e W' ⟨he, bel⟩ => ?_
  subst he
  exact ⟨_, rfl, _, _, _, [], _, [], hW', trodAll_mk1 (shut_bool Try.underlying4 _), (trodAll_cons_mk (Below.trod laidOut (by kernel_rfl) (of_decide_eq_true (by kernel_rfl)) k0 bel lt0) (trodAll_cons_mk (Below.trod laidOut (by kernel_rfl) (of_decide_eq_true (by kernel_rfl)) k1 bel lt1) trodAll_mk0)), rfl, bel.frame _, fun h => by cases h⟩

theorem over : Rows.conicWithinHullRow.holds Try.pinned (OpenSpec.ofChange Rows.conicWithinHullSpec) :=
  OpenClaim.holds_of_wide 3 Try.f3 rfl rfl rfl rfl rfl rfl rfl ⟨rfl, rfl, rfl, rfl, rfl⟩ rfl rfl rfl rfl rfl (by kernel_rfl) Try.func3 (by kernel_rfl)
    (of_decide_eq_true (by kernel_rfl)) (by unfold Func.isWrapper; first | (rw [if_pos (by decide +kernel)]; kernel_rfl) | (rw [if_neg (by decide +kernel)]; exact ⟨rfl, rfl⟩))
    (fun os started H enc _ => lifted os started H enc)

/-- The statement. -/
theorem proved : Rows.ConicWithinHullSaid := over
end Go.Proofs.Ytcdedefhofkbhaa.conicWithinHull
