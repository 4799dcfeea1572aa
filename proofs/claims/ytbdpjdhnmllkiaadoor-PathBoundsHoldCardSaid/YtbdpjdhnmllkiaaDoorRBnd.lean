/- What the reference's PathBounds returns. -/
import Derived.Test.YtbdpjdhnmllkiaaDoorTab
import Derived.Test.YtbdpjdhnmllkiaaDoorBnd
namespace Go.Proofs.YtbdpjdhnmllkiaaDoor
open Go Go.RowKit
set_option linter.unusedVariables false
set_option linter.unusedSimpArgs false

/-- The memory while the least and the greatest coordinates are brought up to date. -/
structure MM (B : Nat) (W : World) (K N : Bx) (L : Nat → Bool) (w : World) : Prop where
  b : Below (B + 2) W w
  m : Var w (B + 2) #[.int .i64 (bif L 33 then N.a else K.a), .int .i64 (bif L 35 then N.b else K.b)] 36
  k : Var w (B + 3) #[.int .i64 (bif L 37 then N.c else K.c), .int .i64 (bif L 39 then N.d else K.d)] 36
  d0 : L 33 = true → L 1 = true
  d1 : L 35 = true → L 9 = true
  d2 : L 37 = true → L 17 = true
  d3 : L 39 = true → L 25 = true
section
variable {B : Nat} {W w : World} {K N : Bx} {L : Nat → Bool}
theorem beq_ne {i j : Nat} (h : Nat.beq j i = false) : j ≠ i := fun e => by subst e; rw [Nat.beq_refl] at h; cases h
theorem MM.mark {i : Nat} (h : MM B W K N L w) (hi : Nat.beq 33 i = false ∧ Nat.beq 35 i = false ∧ Nat.beq 37 i = false ∧ Nat.beq 39 i = false) : MM B W K N (Iv.mark L i) w := by
  have e0 : Iv.mark L i 33 = L 33 := mark_ne (beq_ne hi.1)
  have e1 : Iv.mark L i 35 = L 35 := mark_ne (beq_ne hi.2.1)
  have e2 : Iv.mark L i 37 = L 37 := mark_ne (beq_ne hi.2.2.1)
  have e3 : Iv.mark L i 39 = L 39 := mark_ne (beq_ne hi.2.2.2)
  refine ⟨h.b, ?_, ?_, fun k => ?_, fun k => ?_, fun k => ?_, fun k => ?_⟩
  · rw [e0, e1]; exact h.m
  · rw [e2, e3]; exact h.k
  · rw [e0] at k; exact mark_le (h.d0 k)
  · rw [e1] at k; exact mark_le (h.d1 k)
  · rw [e2] at k; exact mark_le (h.d2 k)
  · rw [e3] at k; exact mark_le (h.d3 k)
theorem no_of {a b : Bool} (h : a = true → b = true) (hb : b = false) : a = false := by
  cases a
  · rfl
  · rw [h rfl] at hb; cases hb
theorem MM.c0 (h : MM B W K N L w) (h1 : L 1 = false) : w.cell? ⟨B + 2, 0, none⟩ = some (.int .i64 K.a) := by
  have := h.m.cell 0; rw [no_of h.d0 h1] at this; exact this
theorem MM.c1 (h : MM B W K N L w) (h1 : L 9 = false) : w.cell? ⟨B + 2, 1, none⟩ = some (.int .i64 K.b) := by
  have := h.m.cell 1; rw [no_of h.d1 h1] at this; exact this
theorem MM.c2 (h : MM B W K N L w) (h1 : L 17 = false) : w.cell? ⟨B + 3, 0, none⟩ = some (.int .i64 K.c) := by
  have := h.k.cell 0; rw [no_of h.d2 h1] at this; exact this
theorem MM.c3 (h : MM B W K N L w) (h1 : L 25 = false) : w.cell? ⟨B + 3, 1, none⟩ = some (.int .i64 K.d) := by
  have := h.k.cell 1; rw [no_of h.d3 h1] at this; exact this
theorem MM.s0 (h : MM B W K N L w) (h1 : L 1 = true) : MM B W K N (Iv.mark L 33) (w.setCell ⟨B + 2, 0, none⟩ (.int .i64 N.a)) :=
  ⟨h.b.setCell (p := ⟨B + 2, 0, none⟩) (Nat.le_refl (B + 2)) _, h.m.set (i := 0) _, h.k.far (p := ⟨B + 2, 0, none⟩) (by show B + 3 ≠ B + 2; omega) _, fun _ => mark_le h1, fun k => mark_le (h.d1 k), fun k => mark_le (h.d2 k), fun k => mark_le (h.d3 k)⟩
theorem MM.s1 (h : MM B W K N L w) (h1 : L 9 = true) : MM B W K N (Iv.mark L 35) (w.setCell ⟨B + 2, 1, none⟩ (.int .i64 N.b)) :=
  ⟨h.b.setCell (p := ⟨B + 2, 1, none⟩) (Nat.le_refl (B + 2)) _, h.m.set (i := 1) _, h.k.far (p := ⟨B + 2, 1, none⟩) (by show B + 3 ≠ B + 2; omega) _, fun k => mark_le (h.d0 k), fun _ => mark_le h1, fun k => mark_le (h.d2 k), fun k => mark_le (h.d3 k)⟩
theorem MM.s2 (h : MM B W K N L w) (h1 : L 17 = true) : MM B W K N (Iv.mark L 37) (w.setCell ⟨B + 3, 0, none⟩ (.int .i64 N.c)) :=
  ⟨h.b.setCell (p := ⟨B + 3, 0, none⟩) (Nat.le_succ (B + 2)) _, h.m.far (p := ⟨B + 3, 0, none⟩) (by show B + 2 ≠ B + 3; omega) _, h.k.set (i := 0) _, fun k => mark_le (h.d0 k), fun k => mark_le (h.d1 k), fun _ => mark_le h1, fun k => mark_le (h.d3 k)⟩
theorem MM.s3 (h : MM B W K N L w) (h1 : L 25 = true) : MM B W K N (Iv.mark L 39) (w.setCell ⟨B + 3, 1, none⟩ (.int .i64 N.d)) :=
  ⟨h.b.setCell (p := ⟨B + 3, 1, none⟩) (Nat.le_succ (B + 2)) _, h.m.far (p := ⟨B + 3, 1, none⟩) (by show B + 2 ≠ B + 3; omega) _, h.k.set (i := 1) _, fun k => mark_le (h.d0 k), fun k => mark_le (h.d1 k), fun k => mark_le (h.d2 k), fun _ => mark_le h1⟩
theorem MM.m33 (h : MM B W K N L w) (h0 : L 33 = true) (h1 : L 35 = true) : Var w (B + 2) (pc N.a N.b) 36 := by
  have := h.m; rw [h0, h1] at this; exact this
theorem MM.k37 (h : MM B W K N L w) (h0 : L 37 = true) (h1 : L 39 = true) : Var w (B + 3) (pc N.c N.d) 36 := by
  have := h.k; rw [h0, h1] at this; exact this
end

theorem retPP {fn : Func} {p q : Tmp} {R : Ending → World → Prop} {tmps : Array Value} {w : World} {B B' : Nat} {x y x' y' : Int} (h : fn.results = #[.cell p 36, .cell q 36]) (hp : tmps.getD p undef = .pointer (some ⟨B, 0, none⟩)) (hq : tmps.getD q undef = .pointer (some ⟨B', 0, none⟩))
    (hV : Var w B (pc x y) 36) (hV' : Var w B' (pc x' y') 36) (hR : R (.returned (.tuple #[pt x y, pt x' y'])) w) : bodyPost Tryd.prog fn R .ret ⟨tmps, []⟩ w :=
  bodyPost_ret (v := .tuple #[pt x y, pt x' y']) (by
    show (results fn tmps).run _ w = _
    have e := loadPt hV
    have e' := loadPt hV'
    rw [Array.getD_eq_getD_getElem?] at hp hq
    simp [results, h, hp, hq, asAddr, e, e']) rfl hR

def rbn (ss : List Sg) : Bx := Bx.far.all (ss.flatMap pts)
theorem pts_far {s : Sg} (K : Bx) : K.all (pts s) = if s.k = 4 then K else if s.k = 3 then (K.add (s.x, s.y)).add (s.u, s.v) else K.add (s.x, s.y) := by
  unfold pts
  by_cases h3 : s.k = 3
  · rw [if_pos h3, if_neg (by omega), if_pos h3]
    exact Bx.add_comm K (s.u, s.v) (s.x, s.y)
  · rw [if_neg h3, if_neg h3]
    split <;> rfl

set_option maxHeartbeats 6400000 in
set_option maxRecDepth 100000 in
theorem rbounds_any (A : Option Addr) (ss : List Sg) (n c : Nat) (w : World) (hn : n = ss.length) (hs : Segs w A ss) (hle : ss.length ≤ 1000) :
    Calls Tryd.prog 28 #[.slice A n c] w fun e w' => e = .returned (.tuple #[pt (rbn ss).a (rbn ss).b, pt (rbn ss).c (rbn ss).d]) ∧ Below w.heap.size w w' := by
  have HS := hid hs
  have HN := hid hn
  clear hs hn
  have hB : w.heap.size = w.heap.size := rfl
  generalize hBB : w.heap.size = B at hB
  obtain ⟨W0, hW0⟩ : ∃ W0, W0 = (((w.alloc (.cells (pc 0 0) 36)).alloc (.cells (pc 0 0) 36)).alloc (.cells (pc 1048576 1048576) 36)).alloc (.cells (pc (-1048576) (-1048576)) 36) := ⟨_, rfl⟩
  have HR0 := hid (show Var W0 B (pc 0 0) 36 by rw [hW0, ← hBB]; exact (((Var.new w _ _ _ rfl).alloc _).alloc _).alloc _)
  have HR1 := hid (show Var W0 (B + 1) (pc 0 0) 36 by rw [hW0, ← hBB]; exact ((Var.new (w.alloc _) _ _ _ (by simp)).alloc _).alloc _)
  have HM0 := hid (show Var W0 (B + 2) (pc 1048576 1048576) 36 by rw [hW0, ← hBB]; exact (Var.new ((w.alloc _).alloc _) _ _ _ (by simp)).alloc _)
  have HK0 := hid (show Var W0 (B + 3) (pc (-1048576) (-1048576)) 36 by rw [hW0, ← hBB]; exact Var.new (((w.alloc _).alloc _).alloc _) _ _ _ (by simp))
  have HB0 := hid (show Below B w W0 by rw [hW0, ← hBB]; exact below_alloc (below_alloc (below_alloc (below_alloc (Below.refl _ w) _) _) _) _)
  go_enter Tryd.func28, Tryd.ntmps28
  go_upto_region 2 with fail
  rw [← hW0, show B + 1 + 1 + 1 = B + 3 from rfl, show B + 1 + 1 = B + 2 from rfl]
  clear hW0 hB
  go_wp2_with fail
  go_loopw [11] (fun s11 wr => ∃ (j : Nat) (K : Bx), j ≤ n ∧ s11 = .int .i64 j ∧ Hid (rbn ss = K.all ((ss.drop j).flatMap pts)) ∧ Hid (Var wr (B + 2) (pc K.a K.b) 36) ∧ Hid (Var wr (B + 3) (pc K.c K.d) 36) ∧ Hid (Var wr B (pc 0 0) 36) ∧ Hid (Var wr (B + 1) (pc 0 0) 36) ∧ Hid (Below B w wr)) (fun s11 _ => n - (intOf s11).toNat)
  case atStart => exact ⟨0, Bx.far, Nat.zero_le _, rfl, hid rfl, HM0, HK0, HR0, HR1, HB0⟩
  case round =>
    obtain ⟨wo, rfl⟩ : ∃ wo, wo = wr := ⟨_, rfl⟩
    obtain ⟨j, K, hj, rfl, HE, HMa, HKa, HRa, HRb, HBJ⟩ := hrel
    by_cases hlt : j < n
    · have hjl : j < ss.length := by rw [← HN.out]; exact hlt
      obtain ⟨a, rfl, hal, hsa⟩ := HS.out.at_ hjl
      rw [sg_at hjl] at hsa
      rw [hBB] at hal
      have HE1 := hid (show rbn ss = (K.all (pts (sg ss j))).all ((ss.drop (j + 1)).flatMap pts) by
        rw [HE.out, List.drop_eq_getElem_cons hjl, List.flatMap_cons, sg_at hjl]
        unfold Bx.all
        rw [List.foldl_append])
      rw [pts_far] at HE1
      generalize sg ss j = s at hsa HE1
      have HAB := hid (show (a.add (j * 6)).block < B by rw [add_block]; exact hal)
      have HSA := hid (hsa.below HBJ.out HAB.out)
      have hj1 : (0:Int) ≤ (j:Int) := by omega
      have hj2 : (j:Int) < (n:Int) := by omega
      clear hsa HE
      obtain ⟨c0, -, -, -, -, -⟩ := HSA.out
      by_cases h4 : s.k = 4
      · have hb4 : (s.k == 4) = true := by simp [h4]
        rw [if_pos h4] at HE1
        clear h4
        go_wp2_with fail
        go_roundw
        case rel => exact ⟨j + 1, K, by omega, by go_num, HE1, HMa, HKa, HRa, HRb, HBJ⟩
        case measure => simp [intOf]; omega
      · have hb4 : (s.k == 4) = false := by simp [h4]
        rw [if_neg h4] at HE1
        clear h4
        have LSa := fun w1 (h : Below (B + 2) wo w1) => HSA.out.below h (by have := HAB.out; omega)
        go_upto_region 6 with fail
        rename_i Kna hKa
        refine Iv.wp_region_inv (n := 101) (TI [some 20, some 21, some 22, some 23, some 24, some 25, some 26, some 27, some 28, some 29, some 30, some 31, some 32, some 33, some 34, some 35, some 36, some 37, some 38, some 39, some 40, some 41, some 42, some 43, some 44, some 45, some 46, some 47, some 48, some 49, some 50, some 51, some 52, none, some 53, none, some 54, none, some 55, none]
            [.pointer (some ⟨B + 2, 0, none⟩), .int .i64 K.a, .slice (some a) n c, .int .i64 j, .pointer (some (a.add (j * 6))), .pointer (some ((a.add (j * 6)).add 1)), .int .i64 s.x, .int .i64 (K.add (s.x, s.y)).a, .pointer (some ⟨B + 2, 1, none⟩), .int .i64 K.b, .slice (some a) n c, .int .i64 j, .pointer (some (a.add (j * 6))), .pointer (some ((a.add (j * 6)).add 2)), .int .i64 s.y, .int .i64 (K.add (s.x, s.y)).b, .pointer (some ⟨B + 3, 0, none⟩), .int .i64 K.c, .slice (some a) n c, .int .i64 j, .pointer (some (a.add (j * 6))), .pointer (some ((a.add (j * 6)).add 1)), .int .i64 s.x, .int .i64 (K.add (s.x, s.y)).c, .pointer (some ⟨B + 3, 1, none⟩), .int .i64 K.d, .slice (some a) n c, .int .i64 j, .pointer (some (a.add (j * 6))), .pointer (some ((a.add (j * 6)).add 2)), .int .i64 s.y, .int .i64 (K.add (s.x, s.y)).d, .pointer (some ⟨B + 2, 0, none⟩), undef, .pointer (some ⟨B + 2, 1, none⟩), undef, .pointer (some ⟨B + 3, 0, none⟩), undef, .pointer (some ⟨B + 3, 1, none⟩), undef]
            [(0, .slice (some a) n c), (1, undef), (2, .pointer (some ⟨B, 0, none⟩)), (3, .pointer (some ⟨B + 1, 0, none⟩)), (4, .pointer (some ⟨B + 2, 0, none⟩)), (5, .pointer (some ⟨B + 3, 0, none⟩)), (6, .int .i64 j), (7, .agg #[.int .i64 1048576, .int .i64 1048576]), (8, .agg #[.int .i64 (-1048576), .int .i64 (-1048576)]), (9, .slice (some a) n c), (10, .int .i64 n), (11, .int .i64 j), (12, .bool true), (99, undef), (100, undef)] (MM B wo K (K.add (s.x, s.y)))) _ (by kernel_rfl) (by kernel_rfl) (Is.start _ rfl) ?_ ?_ ?_
        · refine ⟨fun i d _ h => (by cases h), fun q hq => ?_, ⟨(Below.refl _ _).drew, HMa.out.drew, HKa.out.drew, fun h => (by cases h), fun h => (by cases h), fun h => (by cases h), fun h => (by cases h)⟩⟩
          simp only [List.mem_cons, List.not_mem_nil, or_false] at hq
          rcases hq with rfl | rfl | rfl | rfl | rfl | rfl | rfl | rfl | rfl | rfl | rfl | rfl | rfl | rfl | rfl
          all_goals rfl
        · exact ⟨ti_val rfl rfl rfl (fun L w h => h.mark ⟨rfl, rfl, rfl, rfl⟩) rfl fun L f w hL hdep H => run_fldP0 (H.x (4, .pointer (some ⟨B + 2, 0, none⟩)) (by simp)),
    ti_val rfl rfl rfl (fun L w h => h.mark ⟨rfl, rfl, rfl, rfl⟩) rfl fun L f w hL hdep H => run_load_int (H.t 0 20 rfl (hdep ⟨0, .data⟩ (by simp) rfl)) (H.m.c0 hL),
    ti_val rfl rfl rfl (fun L w h => h.mark ⟨rfl, rfl, rfl, rfl⟩) rfl fun L f w hL hdep H => congrArg (fun v => Result.ok (Next.value v) w) (H.x (0, .slice (some a) n c) (by simp)),
    ti_val rfl rfl rfl (fun L w h => h.mark ⟨rfl, rfl, rfl, rfl⟩) rfl fun L f w hL hdep H => congrArg (fun v => Result.ok (Next.value v) w) (H.x (6, .int .i64 j) (by simp)),
    ti_val rfl rfl rfl (fun L w h => h.mark ⟨rfl, rfl, rfl, rfl⟩) rfl fun L f w hL hdep H => run_index (a := a) (j := j) (n := n) (c := c) (H.t 2 22 rfl (hdep ⟨2, .data⟩ (by simp) rfl)) (H.t 3 23 rfl (hdep ⟨3, .data⟩ (by simp) rfl)) hj1 hj2,
    ti_val rfl rfl rfl (fun L w h => h.mark ⟨rfl, rfl, rfl, rfl⟩) rfl fun L f w hL hdep H => run_fld (by omega) (H.t 4 24 rfl (hdep ⟨4, .data⟩ (by simp) rfl)),
    ti_val rfl rfl rfl (fun L w h => h.mark ⟨rfl, rfl, rfl, rfl⟩) rfl fun L f w hL hdep H => run_loadFld (H.t 5 25 rfl (hdep ⟨5, .data⟩ (by simp) rfl)) (LSa w H.m.b).c1,
    ti_val rfl rfl rfl (fun L w h => h.mark ⟨rfl, rfl, rfl, rfl⟩) rfl fun L f w hL hdep H => run_min (H.t 1 21 rfl (hdep ⟨1, .data⟩ (by simp) rfl)) (H.t 6 26 rfl (hdep ⟨6, .data⟩ (by simp) rfl)),
    ti_val rfl rfl rfl (fun L w h => h.mark ⟨rfl, rfl, rfl, rfl⟩) rfl fun L f w hL hdep H => run_fldP1 (H.x (4, .pointer (some ⟨B + 2, 0, none⟩)) (by simp)),
    ti_val rfl rfl rfl (fun L w h => h.mark ⟨rfl, rfl, rfl, rfl⟩) rfl fun L f w hL hdep H => run_load_int (H.t 8 28 rfl (hdep ⟨8, .data⟩ (by simp) rfl)) (H.m.c1 hL),
    ti_val rfl rfl rfl (fun L w h => h.mark ⟨rfl, rfl, rfl, rfl⟩) rfl fun L f w hL hdep H => congrArg (fun v => Result.ok (Next.value v) w) (H.x (0, .slice (some a) n c) (by simp)),
    ti_val rfl rfl rfl (fun L w h => h.mark ⟨rfl, rfl, rfl, rfl⟩) rfl fun L f w hL hdep H => congrArg (fun v => Result.ok (Next.value v) w) (H.x (6, .int .i64 j) (by simp)),
    ti_val rfl rfl rfl (fun L w h => h.mark ⟨rfl, rfl, rfl, rfl⟩) rfl fun L f w hL hdep H => run_index (a := a) (j := j) (n := n) (c := c) (H.t 10 30 rfl (hdep ⟨10, .data⟩ (by simp) rfl)) (H.t 11 31 rfl (hdep ⟨11, .data⟩ (by simp) rfl)) hj1 hj2,
    ti_val rfl rfl rfl (fun L w h => h.mark ⟨rfl, rfl, rfl, rfl⟩) rfl fun L f w hL hdep H => run_fld (by omega) (H.t 12 32 rfl (hdep ⟨12, .data⟩ (by simp) rfl)),
    ti_val rfl rfl rfl (fun L w h => h.mark ⟨rfl, rfl, rfl, rfl⟩) rfl fun L f w hL hdep H => run_loadFld (H.t 13 33 rfl (hdep ⟨13, .data⟩ (by simp) rfl)) (LSa w H.m.b).c2,
    ti_val rfl rfl rfl (fun L w h => h.mark ⟨rfl, rfl, rfl, rfl⟩) rfl fun L f w hL hdep H => run_min (H.t 9 29 rfl (hdep ⟨9, .data⟩ (by simp) rfl)) (H.t 14 34 rfl (hdep ⟨14, .data⟩ (by simp) rfl)),
    ti_val rfl rfl rfl (fun L w h => h.mark ⟨rfl, rfl, rfl, rfl⟩) rfl fun L f w hL hdep H => run_fldP0 (H.x (5, .pointer (some ⟨B + 3, 0, none⟩)) (by simp)),
    ti_val rfl rfl rfl (fun L w h => h.mark ⟨rfl, rfl, rfl, rfl⟩) rfl fun L f w hL hdep H => run_load_int (H.t 16 36 rfl (hdep ⟨16, .data⟩ (by simp) rfl)) (H.m.c2 hL),
    ti_val rfl rfl rfl (fun L w h => h.mark ⟨rfl, rfl, rfl, rfl⟩) rfl fun L f w hL hdep H => congrArg (fun v => Result.ok (Next.value v) w) (H.x (0, .slice (some a) n c) (by simp)),
    ti_val rfl rfl rfl (fun L w h => h.mark ⟨rfl, rfl, rfl, rfl⟩) rfl fun L f w hL hdep H => congrArg (fun v => Result.ok (Next.value v) w) (H.x (6, .int .i64 j) (by simp)),
    ti_val rfl rfl rfl (fun L w h => h.mark ⟨rfl, rfl, rfl, rfl⟩) rfl fun L f w hL hdep H => run_index (a := a) (j := j) (n := n) (c := c) (H.t 18 38 rfl (hdep ⟨18, .data⟩ (by simp) rfl)) (H.t 19 39 rfl (hdep ⟨19, .data⟩ (by simp) rfl)) hj1 hj2,
    ti_val rfl rfl rfl (fun L w h => h.mark ⟨rfl, rfl, rfl, rfl⟩) rfl fun L f w hL hdep H => run_fld (by omega) (H.t 20 40 rfl (hdep ⟨20, .data⟩ (by simp) rfl)),
    ti_val rfl rfl rfl (fun L w h => h.mark ⟨rfl, rfl, rfl, rfl⟩) rfl fun L f w hL hdep H => run_loadFld (H.t 21 41 rfl (hdep ⟨21, .data⟩ (by simp) rfl)) (LSa w H.m.b).c1,
    ti_val rfl rfl rfl (fun L w h => h.mark ⟨rfl, rfl, rfl, rfl⟩) rfl fun L f w hL hdep H => run_max (H.t 17 37 rfl (hdep ⟨17, .data⟩ (by simp) rfl)) (H.t 22 42 rfl (hdep ⟨22, .data⟩ (by simp) rfl)),
    ti_val rfl rfl rfl (fun L w h => h.mark ⟨rfl, rfl, rfl, rfl⟩) rfl fun L f w hL hdep H => run_fldP1 (H.x (5, .pointer (some ⟨B + 3, 0, none⟩)) (by simp)),
    ti_val rfl rfl rfl (fun L w h => h.mark ⟨rfl, rfl, rfl, rfl⟩) rfl fun L f w hL hdep H => run_load_int (H.t 24 44 rfl (hdep ⟨24, .data⟩ (by simp) rfl)) (H.m.c3 hL),
    ti_val rfl rfl rfl (fun L w h => h.mark ⟨rfl, rfl, rfl, rfl⟩) rfl fun L f w hL hdep H => congrArg (fun v => Result.ok (Next.value v) w) (H.x (0, .slice (some a) n c) (by simp)),
    ti_val rfl rfl rfl (fun L w h => h.mark ⟨rfl, rfl, rfl, rfl⟩) rfl fun L f w hL hdep H => congrArg (fun v => Result.ok (Next.value v) w) (H.x (6, .int .i64 j) (by simp)),
    ti_val rfl rfl rfl (fun L w h => h.mark ⟨rfl, rfl, rfl, rfl⟩) rfl fun L f w hL hdep H => run_index (a := a) (j := j) (n := n) (c := c) (H.t 26 46 rfl (hdep ⟨26, .data⟩ (by simp) rfl)) (H.t 27 47 rfl (hdep ⟨27, .data⟩ (by simp) rfl)) hj1 hj2,
    ti_val rfl rfl rfl (fun L w h => h.mark ⟨rfl, rfl, rfl, rfl⟩) rfl fun L f w hL hdep H => run_fld (by omega) (H.t 28 48 rfl (hdep ⟨28, .data⟩ (by simp) rfl)),
    ti_val rfl rfl rfl (fun L w h => h.mark ⟨rfl, rfl, rfl, rfl⟩) rfl fun L f w hL hdep H => run_loadFld (H.t 29 49 rfl (hdep ⟨29, .data⟩ (by simp) rfl)) (LSa w H.m.b).c2,
    ti_val rfl rfl rfl (fun L w h => h.mark ⟨rfl, rfl, rfl, rfl⟩) rfl fun L f w hL hdep H => run_max (H.t 25 45 rfl (hdep ⟨25, .data⟩ (by simp) rfl)) (H.t 30 50 rfl (hdep ⟨30, .data⟩ (by simp) rfl)),
    ti_val rfl rfl rfl (fun L w h => h.mark ⟨rfl, rfl, rfl, rfl⟩) rfl fun L f w hL hdep H => run_fldP0 (H.x (4, .pointer (some ⟨B + 2, 0, none⟩)) (by simp)),
    ti_store rfl fun L f w hL hdep H => ⟨_, F2.run_storeInt (H.t 32 52 rfl (hdep ⟨32, .data⟩ (by simp) rfl)) (H.t 7 27 rfl (hdep ⟨7, .data⟩ (by simp) rfl)) H.m.m rfl, H.m.s0 (hdep ⟨1, .phase⟩ (by simp) rfl)⟩,
    ti_val rfl rfl rfl (fun L w h => h.mark ⟨rfl, rfl, rfl, rfl⟩) rfl fun L f w hL hdep H => run_fldP1 (H.x (4, .pointer (some ⟨B + 2, 0, none⟩)) (by simp)),
    ti_store rfl fun L f w hL hdep H => ⟨_, F2.run_storeInt (H.t 34 53 rfl (hdep ⟨34, .data⟩ (by simp) rfl)) (H.t 15 35 rfl (hdep ⟨15, .data⟩ (by simp) rfl)) H.m.m rfl, H.m.s1 (hdep ⟨9, .phase⟩ (by simp) rfl)⟩,
    ti_val rfl rfl rfl (fun L w h => h.mark ⟨rfl, rfl, rfl, rfl⟩) rfl fun L f w hL hdep H => run_fldP0 (H.x (5, .pointer (some ⟨B + 3, 0, none⟩)) (by simp)),
    ti_store rfl fun L f w hL hdep H => ⟨_, F2.run_storeInt (H.t 36 54 rfl (hdep ⟨36, .data⟩ (by simp) rfl)) (H.t 23 43 rfl (hdep ⟨23, .data⟩ (by simp) rfl)) H.m.k rfl, H.m.s2 (hdep ⟨17, .phase⟩ (by simp) rfl)⟩,
    ti_val rfl rfl rfl (fun L w h => h.mark ⟨rfl, rfl, rfl, rfl⟩) rfl fun L f w hL hdep H => run_fldP1 (H.x (5, .pointer (some ⟨B + 3, 0, none⟩)) (by simp)),
    ti_store rfl fun L f w hL hdep H => ⟨_, F2.run_storeInt (H.t 38 55 rfl (hdep ⟨38, .data⟩ (by simp) rfl)) (H.t 31 51 rfl (hdep ⟨31, .data⟩ (by simp) rfl)) H.m.k rfl, H.m.s3 (hdep ⟨25, .phase⟩ (by simp) rfl)⟩, trivial⟩
        intro L f act wa hall H ha
        refine hKa _ _ ?_
        have k0 := H.x (0, .slice (some a) n c) (by simp)
        have k1 := H.x (1, undef) (by simp)
        have k2 := H.x (2, .pointer (some ⟨B, 0, none⟩)) (by simp)
        have k3 := H.x (3, .pointer (some ⟨B + 1, 0, none⟩)) (by simp)
        have k4 := H.x (4, .pointer (some ⟨B + 2, 0, none⟩)) (by simp)
        have k5 := H.x (5, .pointer (some ⟨B + 3, 0, none⟩)) (by simp)
        have k6 := H.x (6, .int .i64 j) (by simp)
        have k7 := H.x (7, .agg #[.int .i64 1048576, .int .i64 1048576]) (by simp)
        have k8 := H.x (8, .agg #[.int .i64 (-1048576), .int .i64 (-1048576)]) (by simp)
        have k9 := H.x (9, .slice (some a) n c) (by simp)
        have k10 := H.x (10, .int .i64 n) (by simp)
        have k11 := H.x (11, .int .i64 j) (by simp)
        have k12 := H.x (12, .bool true) (by simp)
        have k99 := H.x (99, undef) (by simp)
        have k100 := H.x (100, undef) (by simp)
        have hw := ha.whole
        rw [show ((List.range 101).map f).toArray = #[f 0, f 1, f 2, f 3, f 4, f 5, f 6, f 7, f 8, f 9, f 10, f 11, f 12, f 13, f 14, f 15, f 16, f 17, f 18, f 19, f 20, f 21, f 22, f 23, f 24, f 25, f 26, f 27, f 28, f 29, f 30, f 31, f 32, f 33, f 34, f 35, f 36, f 37, f 38, f 39, f 40, f 41, f 42, f 43, f 44, f 45, f 46, f 47, f 48, f 49, f 50, f 51, f 52, f 53, f 54, f 55, f 56, f 57, f 58, f 59, f 60, f 61, f 62, f 63, f 64, f 65, f 66, f 67, f 68, f 69, f 70, f 71, f 72, f 73, f 74, f 75, f 76, f 77, f 78, f 79, f 80, f 81, f 82, f 83, f 84, f 85, f 86, f 87, f 88, f 89, f 90, f 91, f 92, f 93, f 94, f 95, f 96, f 97, f 98, f 99, f 100] from rfl, show f 0 = _ from k0, show f 1 = _ from k1, show f 2 = _ from k2, show f 3 = _ from k3, show f 4 = _ from k4, show f 5 = _ from k5, show f 6 = _ from k6, show f 7 = _ from k7, show f 8 = _ from k8, show f 9 = _ from k9, show f 10 = _ from k10, show f 11 = _ from k11, show f 12 = _ from k12, show f 99 = _ from k99, show f 100 = _ from k100] at hw
        rw [hw]
        have HMax := hid (H.m.m33 (hall 33 (by decide)) (hall 35 (by decide)))
        have HKax := hid (H.m.k37 (hall 37 (by decide)) (hall 39 (by decide)))
        have HBax := hid H.m.b
        clear hw ha H hall hKa LSa k0 k1 k2 k3 k4 k5 k6 k7 k8 k9 k10 k11 k12 k99 k100
        have HSB := hid (HSA.out.below HBax.out (by have := HAB.out; omega))
        have HR0b := hid (HRa.out.below HBax.out (by omega))
        have HR1b := hid (HRb.out.below HBax.out (by omega))
        have HBb := hid (HBJ.out.trans (HBax.out.mono (by omega)))
        have HMb := hid HMax.out
        have HKb := hid HKax.out
        clear HMax HKax HBax HSA HRa HRb HBJ HMa HKa c0
        obtain ⟨c0, -, -, -, -, -⟩ := HSB.out
        by_cases h3 : s.k = 3
        · have hb3 : (s.k == 3) = true := by simp [h3]
          rw [if_pos h3] at HE1
          clear h3
          have LSb := fun w1 (h : Below (B + 2) wa w1) => HSB.out.below h (by have := HAB.out; omega)
          go_upto_region 8 with fail
          rename_i Knb hKb
          refine Iv.wp_region_inv (n := 101) (TI [some 62, some 63, some 64, some 65, some 66, some 67, some 68, some 69, some 70, some 71, some 72, some 73, some 74, some 75, some 76, some 77, some 78, some 79, some 80, some 81, some 82, some 83, some 84, some 85, some 86, some 87, some 88, some 89, some 90, some 91, some 92, some 93, some 94, none, some 95, none, some 96, none, some 97, none]
              [.pointer (some ⟨B + 2, 0, none⟩), .int .i64 (K.add (s.x, s.y)).a, .slice (some a) n c, .int .i64 j, .pointer (some (a.add (j * 6))), .pointer (some ((a.add (j * 6)).add 3)), .int .i64 s.u, .int .i64 ((K.add (s.x, s.y)).add (s.u, s.v)).a, .pointer (some ⟨B + 2, 1, none⟩), .int .i64 (K.add (s.x, s.y)).b, .slice (some a) n c, .int .i64 j, .pointer (some (a.add (j * 6))), .pointer (some ((a.add (j * 6)).add 4)), .int .i64 s.v, .int .i64 ((K.add (s.x, s.y)).add (s.u, s.v)).b, .pointer (some ⟨B + 3, 0, none⟩), .int .i64 (K.add (s.x, s.y)).c, .slice (some a) n c, .int .i64 j, .pointer (some (a.add (j * 6))), .pointer (some ((a.add (j * 6)).add 3)), .int .i64 s.u, .int .i64 ((K.add (s.x, s.y)).add (s.u, s.v)).c, .pointer (some ⟨B + 3, 1, none⟩), .int .i64 (K.add (s.x, s.y)).d, .slice (some a) n c, .int .i64 j, .pointer (some (a.add (j * 6))), .pointer (some ((a.add (j * 6)).add 4)), .int .i64 s.v, .int .i64 ((K.add (s.x, s.y)).add (s.u, s.v)).d, .pointer (some ⟨B + 2, 0, none⟩), undef, .pointer (some ⟨B + 2, 1, none⟩), undef, .pointer (some ⟨B + 3, 0, none⟩), undef, .pointer (some ⟨B + 3, 1, none⟩), undef]
              [(0, .slice (some a) n c), (1, undef), (2, .pointer (some ⟨B, 0, none⟩)), (3, .pointer (some ⟨B + 1, 0, none⟩)), (4, .pointer (some ⟨B + 2, 0, none⟩)), (5, .pointer (some ⟨B + 3, 0, none⟩)), (6, .int .i64 j), (7, .agg #[.int .i64 1048576, .int .i64 1048576]), (8, .agg #[.int .i64 (-1048576), .int .i64 (-1048576)]), (9, .slice (some a) n c), (10, .int .i64 n), (11, .int .i64 j), (12, .bool true), (99, undef), (100, undef)] (MM B wa (K.add (s.x, s.y)) ((K.add (s.x, s.y)).add (s.u, s.v)))) _ (by kernel_rfl) (by kernel_rfl) (Is.start _ rfl) ?_ ?_ ?_
          · refine ⟨fun i d _ h => (by cases h), fun q hq => ?_, ⟨(Below.refl _ _).drew, HMb.out.drew, HKb.out.drew, fun h => (by cases h), fun h => (by cases h), fun h => (by cases h), fun h => (by cases h)⟩⟩
            simp only [List.mem_cons, List.not_mem_nil, or_false] at hq
            rcases hq with rfl | rfl | rfl | rfl | rfl | rfl | rfl | rfl | rfl | rfl | rfl | rfl | rfl | rfl | rfl
            all_goals rfl
          · exact ⟨ti_val rfl rfl rfl (fun L w h => h.mark ⟨rfl, rfl, rfl, rfl⟩) rfl fun L f w hL hdep H => run_fldP0 (H.x (4, .pointer (some ⟨B + 2, 0, none⟩)) (by simp)),
    ti_val rfl rfl rfl (fun L w h => h.mark ⟨rfl, rfl, rfl, rfl⟩) rfl fun L f w hL hdep H => run_load_int (H.t 0 62 rfl (hdep ⟨0, .data⟩ (by simp) rfl)) (H.m.c0 hL),
    ti_val rfl rfl rfl (fun L w h => h.mark ⟨rfl, rfl, rfl, rfl⟩) rfl fun L f w hL hdep H => congrArg (fun v => Result.ok (Next.value v) w) (H.x (0, .slice (some a) n c) (by simp)),
    ti_val rfl rfl rfl (fun L w h => h.mark ⟨rfl, rfl, rfl, rfl⟩) rfl fun L f w hL hdep H => congrArg (fun v => Result.ok (Next.value v) w) (H.x (6, .int .i64 j) (by simp)),
    ti_val rfl rfl rfl (fun L w h => h.mark ⟨rfl, rfl, rfl, rfl⟩) rfl fun L f w hL hdep H => run_index (a := a) (j := j) (n := n) (c := c) (H.t 2 64 rfl (hdep ⟨2, .data⟩ (by simp) rfl)) (H.t 3 65 rfl (hdep ⟨3, .data⟩ (by simp) rfl)) hj1 hj2,
    ti_val rfl rfl rfl (fun L w h => h.mark ⟨rfl, rfl, rfl, rfl⟩) rfl fun L f w hL hdep H => run_fld (by omega) (H.t 4 66 rfl (hdep ⟨4, .data⟩ (by simp) rfl)),
    ti_val rfl rfl rfl (fun L w h => h.mark ⟨rfl, rfl, rfl, rfl⟩) rfl fun L f w hL hdep H => run_loadFld (H.t 5 67 rfl (hdep ⟨5, .data⟩ (by simp) rfl)) (LSb w H.m.b).c3,
    ti_val rfl rfl rfl (fun L w h => h.mark ⟨rfl, rfl, rfl, rfl⟩) rfl fun L f w hL hdep H => run_min (H.t 1 63 rfl (hdep ⟨1, .data⟩ (by simp) rfl)) (H.t 6 68 rfl (hdep ⟨6, .data⟩ (by simp) rfl)),
    ti_val rfl rfl rfl (fun L w h => h.mark ⟨rfl, rfl, rfl, rfl⟩) rfl fun L f w hL hdep H => run_fldP1 (H.x (4, .pointer (some ⟨B + 2, 0, none⟩)) (by simp)),
    ti_val rfl rfl rfl (fun L w h => h.mark ⟨rfl, rfl, rfl, rfl⟩) rfl fun L f w hL hdep H => run_load_int (H.t 8 70 rfl (hdep ⟨8, .data⟩ (by simp) rfl)) (H.m.c1 hL),
    ti_val rfl rfl rfl (fun L w h => h.mark ⟨rfl, rfl, rfl, rfl⟩) rfl fun L f w hL hdep H => congrArg (fun v => Result.ok (Next.value v) w) (H.x (0, .slice (some a) n c) (by simp)),
    ti_val rfl rfl rfl (fun L w h => h.mark ⟨rfl, rfl, rfl, rfl⟩) rfl fun L f w hL hdep H => congrArg (fun v => Result.ok (Next.value v) w) (H.x (6, .int .i64 j) (by simp)),
    ti_val rfl rfl rfl (fun L w h => h.mark ⟨rfl, rfl, rfl, rfl⟩) rfl fun L f w hL hdep H => run_index (a := a) (j := j) (n := n) (c := c) (H.t 10 72 rfl (hdep ⟨10, .data⟩ (by simp) rfl)) (H.t 11 73 rfl (hdep ⟨11, .data⟩ (by simp) rfl)) hj1 hj2,
    ti_val rfl rfl rfl (fun L w h => h.mark ⟨rfl, rfl, rfl, rfl⟩) rfl fun L f w hL hdep H => run_fld (by omega) (H.t 12 74 rfl (hdep ⟨12, .data⟩ (by simp) rfl)),
    ti_val rfl rfl rfl (fun L w h => h.mark ⟨rfl, rfl, rfl, rfl⟩) rfl fun L f w hL hdep H => run_loadFld (H.t 13 75 rfl (hdep ⟨13, .data⟩ (by simp) rfl)) (LSb w H.m.b).c4,
    ti_val rfl rfl rfl (fun L w h => h.mark ⟨rfl, rfl, rfl, rfl⟩) rfl fun L f w hL hdep H => run_min (H.t 9 71 rfl (hdep ⟨9, .data⟩ (by simp) rfl)) (H.t 14 76 rfl (hdep ⟨14, .data⟩ (by simp) rfl)),
    ti_val rfl rfl rfl (fun L w h => h.mark ⟨rfl, rfl, rfl, rfl⟩) rfl fun L f w hL hdep H => run_fldP0 (H.x (5, .pointer (some ⟨B + 3, 0, none⟩)) (by simp)),
    ti_val rfl rfl rfl (fun L w h => h.mark ⟨rfl, rfl, rfl, rfl⟩) rfl fun L f w hL hdep H => run_load_int (H.t 16 78 rfl (hdep ⟨16, .data⟩ (by simp) rfl)) (H.m.c2 hL),
    ti_val rfl rfl rfl (fun L w h => h.mark ⟨rfl, rfl, rfl, rfl⟩) rfl fun L f w hL hdep H => congrArg (fun v => Result.ok (Next.value v) w) (H.x (0, .slice (some a) n c) (by simp)),
    ti_val rfl rfl rfl (fun L w h => h.mark ⟨rfl, rfl, rfl, rfl⟩) rfl fun L f w hL hdep H => congrArg (fun v => Result.ok (Next.value v) w) (H.x (6, .int .i64 j) (by simp)),
    ti_val rfl rfl rfl (fun L w h => h.mark ⟨rfl, rfl, rfl, rfl⟩) rfl fun L f w hL hdep H => run_index (a := a) (j := j) (n := n) (c := c) (H.t 18 80 rfl (hdep ⟨18, .data⟩ (by simp) rfl)) (H.t 19 81 rfl (hdep ⟨19, .data⟩ (by simp) rfl)) hj1 hj2,
    ti_val rfl rfl rfl (fun L w h => h.mark ⟨rfl, rfl, rfl, rfl⟩) rfl fun L f w hL hdep H => run_fld (by omega) (H.t 20 82 rfl (hdep ⟨20, .data⟩ (by simp) rfl)),
    ti_val rfl rfl rfl (fun L w h => h.mark ⟨rfl, rfl, rfl, rfl⟩) rfl fun L f w hL hdep H => run_loadFld (H.t 21 83 rfl (hdep ⟨21, .data⟩ (by simp) rfl)) (LSb w H.m.b).c3,
    ti_val rfl rfl rfl (fun L w h => h.mark ⟨rfl, rfl, rfl, rfl⟩) rfl fun L f w hL hdep H => run_max (H.t 17 79 rfl (hdep ⟨17, .data⟩ (by simp) rfl)) (H.t 22 84 rfl (hdep ⟨22, .data⟩ (by simp) rfl)),
    ti_val rfl rfl rfl (fun L w h => h.mark ⟨rfl, rfl, rfl, rfl⟩) rfl fun L f w hL hdep H => run_fldP1 (H.x (5, .pointer (some ⟨B + 3, 0, none⟩)) (by simp)),
    ti_val rfl rfl rfl (fun L w h => h.mark ⟨rfl, rfl, rfl, rfl⟩) rfl fun L f w hL hdep H => run_load_int (H.t 24 86 rfl (hdep ⟨24, .data⟩ (by simp) rfl)) (H.m.c3 hL),
    ti_val rfl rfl rfl (fun L w h => h.mark ⟨rfl, rfl, rfl, rfl⟩) rfl fun L f w hL hdep H => congrArg (fun v => Result.ok (Next.value v) w) (H.x (0, .slice (some a) n c) (by simp)),
    ti_val rfl rfl rfl (fun L w h => h.mark ⟨rfl, rfl, rfl, rfl⟩) rfl fun L f w hL hdep H => congrArg (fun v => Result.ok (Next.value v) w) (H.x (6, .int .i64 j) (by simp)),
    ti_val rfl rfl rfl (fun L w h => h.mark ⟨rfl, rfl, rfl, rfl⟩) rfl fun L f w hL hdep H => run_index (a := a) (j := j) (n := n) (c := c) (H.t 26 88 rfl (hdep ⟨26, .data⟩ (by simp) rfl)) (H.t 27 89 rfl (hdep ⟨27, .data⟩ (by simp) rfl)) hj1 hj2,
    ti_val rfl rfl rfl (fun L w h => h.mark ⟨rfl, rfl, rfl, rfl⟩) rfl fun L f w hL hdep H => run_fld (by omega) (H.t 28 90 rfl (hdep ⟨28, .data⟩ (by simp) rfl)),
    ti_val rfl rfl rfl (fun L w h => h.mark ⟨rfl, rfl, rfl, rfl⟩) rfl fun L f w hL hdep H => run_loadFld (H.t 29 91 rfl (hdep ⟨29, .data⟩ (by simp) rfl)) (LSb w H.m.b).c4,
    ti_val rfl rfl rfl (fun L w h => h.mark ⟨rfl, rfl, rfl, rfl⟩) rfl fun L f w hL hdep H => run_max (H.t 25 87 rfl (hdep ⟨25, .data⟩ (by simp) rfl)) (H.t 30 92 rfl (hdep ⟨30, .data⟩ (by simp) rfl)),
    ti_val rfl rfl rfl (fun L w h => h.mark ⟨rfl, rfl, rfl, rfl⟩) rfl fun L f w hL hdep H => run_fldP0 (H.x (4, .pointer (some ⟨B + 2, 0, none⟩)) (by simp)),
    ti_store rfl fun L f w hL hdep H => ⟨_, F2.run_storeInt (H.t 32 94 rfl (hdep ⟨32, .data⟩ (by simp) rfl)) (H.t 7 69 rfl (hdep ⟨7, .data⟩ (by simp) rfl)) H.m.m rfl, H.m.s0 (hdep ⟨1, .phase⟩ (by simp) rfl)⟩,
    ti_val rfl rfl rfl (fun L w h => h.mark ⟨rfl, rfl, rfl, rfl⟩) rfl fun L f w hL hdep H => run_fldP1 (H.x (4, .pointer (some ⟨B + 2, 0, none⟩)) (by simp)),
    ti_store rfl fun L f w hL hdep H => ⟨_, F2.run_storeInt (H.t 34 95 rfl (hdep ⟨34, .data⟩ (by simp) rfl)) (H.t 15 77 rfl (hdep ⟨15, .data⟩ (by simp) rfl)) H.m.m rfl, H.m.s1 (hdep ⟨9, .phase⟩ (by simp) rfl)⟩,
    ti_val rfl rfl rfl (fun L w h => h.mark ⟨rfl, rfl, rfl, rfl⟩) rfl fun L f w hL hdep H => run_fldP0 (H.x (5, .pointer (some ⟨B + 3, 0, none⟩)) (by simp)),
    ti_store rfl fun L f w hL hdep H => ⟨_, F2.run_storeInt (H.t 36 96 rfl (hdep ⟨36, .data⟩ (by simp) rfl)) (H.t 23 85 rfl (hdep ⟨23, .data⟩ (by simp) rfl)) H.m.k rfl, H.m.s2 (hdep ⟨17, .phase⟩ (by simp) rfl)⟩,
    ti_val rfl rfl rfl (fun L w h => h.mark ⟨rfl, rfl, rfl, rfl⟩) rfl fun L f w hL hdep H => run_fldP1 (H.x (5, .pointer (some ⟨B + 3, 0, none⟩)) (by simp)),
    ti_store rfl fun L f w hL hdep H => ⟨_, F2.run_storeInt (H.t 38 97 rfl (hdep ⟨38, .data⟩ (by simp) rfl)) (H.t 31 93 rfl (hdep ⟨31, .data⟩ (by simp) rfl)) H.m.k rfl, H.m.s3 (hdep ⟨25, .phase⟩ (by simp) rfl)⟩, trivial⟩
          intro L f act wb hall H ha
          refine hKb _ _ ?_
          have k0 := H.x (0, .slice (some a) n c) (by simp)
          have k1 := H.x (1, undef) (by simp)
          have k2 := H.x (2, .pointer (some ⟨B, 0, none⟩)) (by simp)
          have k3 := H.x (3, .pointer (some ⟨B + 1, 0, none⟩)) (by simp)
          have k4 := H.x (4, .pointer (some ⟨B + 2, 0, none⟩)) (by simp)
          have k5 := H.x (5, .pointer (some ⟨B + 3, 0, none⟩)) (by simp)
          have k6 := H.x (6, .int .i64 j) (by simp)
          have k7 := H.x (7, .agg #[.int .i64 1048576, .int .i64 1048576]) (by simp)
          have k8 := H.x (8, .agg #[.int .i64 (-1048576), .int .i64 (-1048576)]) (by simp)
          have k9 := H.x (9, .slice (some a) n c) (by simp)
          have k10 := H.x (10, .int .i64 n) (by simp)
          have k11 := H.x (11, .int .i64 j) (by simp)
          have k12 := H.x (12, .bool true) (by simp)
          have k99 := H.x (99, undef) (by simp)
          have k100 := H.x (100, undef) (by simp)
          have hw := ha.whole
          rw [show ((List.range 101).map f).toArray = #[f 0, f 1, f 2, f 3, f 4, f 5, f 6, f 7, f 8, f 9, f 10, f 11, f 12, f 13, f 14, f 15, f 16, f 17, f 18, f 19, f 20, f 21, f 22, f 23, f 24, f 25, f 26, f 27, f 28, f 29, f 30, f 31, f 32, f 33, f 34, f 35, f 36, f 37, f 38, f 39, f 40, f 41, f 42, f 43, f 44, f 45, f 46, f 47, f 48, f 49, f 50, f 51, f 52, f 53, f 54, f 55, f 56, f 57, f 58, f 59, f 60, f 61, f 62, f 63, f 64, f 65, f 66, f 67, f 68, f 69, f 70, f 71, f 72, f 73, f 74, f 75, f 76, f 77, f 78, f 79, f 80, f 81, f 82, f 83, f 84, f 85, f 86, f 87, f 88, f 89, f 90, f 91, f 92, f 93, f 94, f 95, f 96, f 97, f 98, f 99, f 100] from rfl, show f 0 = _ from k0, show f 1 = _ from k1, show f 2 = _ from k2, show f 3 = _ from k3, show f 4 = _ from k4, show f 5 = _ from k5, show f 6 = _ from k6, show f 7 = _ from k7, show f 8 = _ from k8, show f 9 = _ from k9, show f 10 = _ from k10, show f 11 = _ from k11, show f 12 = _ from k12, show f 99 = _ from k99, show f 100 = _ from k100] at hw
          rw [hw]
          have HMbx := hid (H.m.m33 (hall 33 (by decide)) (hall 35 (by decide)))
          have HKbx := hid (H.m.k37 (hall 37 (by decide)) (hall 39 (by decide)))
          have HBbx := hid H.m.b
          clear hw ha H hall hKb LSb k0 k1 k2 k3 k4 k5 k6 k7 k8 k9 k10 k11 k12 k99 k100
          have HR0c := hid (HR0b.out.below HBbx.out (by omega))
          have HR1c := hid (HR1b.out.below HBbx.out (by omega))
          have HBc := hid (HBb.out.trans (HBbx.out.mono (by omega)))
          go_wp2_with fail
          go_roundw
          case rel => exact ⟨j + 1, _, by omega, by go_num, HE1, HMbx, HKbx, HR0c, HR1c, HBc⟩
          case measure => simp [intOf]; omega
        · have hb3 : (s.k == 3) = false := by simp [h3]
          rw [if_neg h3] at HE1
          clear h3
          go_wp2_with fail
          go_roundw
          case rel => exact ⟨j + 1, _, by omega, by go_num, HE1, HMb, HKb, HR0b, HR1b, HBb⟩
          case measure => simp [intOf]; omega
    · have HE2 := hid (show rbn ss = K by rw [HE.out, List.drop_eq_nil_of_le (by rw [← HN.out]; omega)]; rfl)
      obtain ⟨x0, x1, xf⟩ := HMa.out.read2
      obtain ⟨y0, y1, yf⟩ := HKa.out.read2
      obtain ⟨z0, z1, zf⟩ := HRa.out.read2
      obtain ⟨v0, v1, vf⟩ := HRb.out.read2
      go_upto_region 10 with fail
      rename_i Kn hKn
      have HX := hid (HRa.out.set2 (p := .int .i64 K.a) (q := .int .i64 K.b))
      have HX2 := hid (HX.out.far2 (m := B + 1) (by omega) (p := .int .i64 K.c) (q := .int .i64 K.d))
      have HY := hid (HRb.out.far2 (m := B) (by omega) (p := .int .i64 K.a) (q := .int .i64 K.b))
      have HY2 := hid (HY.out.set2 (p := .int .i64 K.c) (q := .int .i64 K.d))
      have HBX := hid (below_set2 (below_set2 HBJ.out (Nat.le_refl B) (p := .int .i64 K.a) (q := .int .i64 K.b)) (show B ≤ B + 1 by omega) (p := .int .i64 K.c) (q := .int .i64 K.d))
      clear HX HY HRa HRb
      go_region_with fail
      all_goals
        refine hKn _ _ ?_
        go_wp2_with fail
        exact retPP Tryd.results28 rfl rfl HX2.out.drew HY2.out.drew ⟨by rw [HE2.out], HBX.out.drew⟩

end Go.Proofs.YtbdpjdhnmllkiaaDoor
