/- What mapSeg of package path returns. -/
import Derived.Test.YtcdedefhofkbhaaTabJ
import Derived.Test.YtcdedefhofkbhaaRun
import Derived.Test.YtcdedefhofkbhaaAfApp
import Derived.Deep.RegionWith
namespace Go.Proofs.Ytcdedefhofkbhaa
open Go Go.RowKit
set_option linter.unusedVariables false
set_option linter.unusedSimpArgs false

abbrev pc (x y : Int) : Array Value := #[.int .i64 x, .int .i64 y]
theorem pend_any (s : Sg) (w : World) : Calls Try.prog 49 #[seg s] w fun e w' => e = .returned (pt s.x s.y) ∧ Below w.heap.size w w' := by
  go_enter Try.func49, Try.ntmps49
  go_wp2_with fail
  exact retP Try.results49 rfl (Var.new (w.alloc (.cells (cel s) 25)) _ _ (w.heap.size + 1) (by simp)) ⟨rfl, below_alloc (below_alloc (Below.refl _ w) _) _⟩
theorem pcontrol_any (s : Sg) (w : World) : Calls Try.prog 50 #[seg s] w fun e w' => e = .returned (pt s.u s.v) ∧ Below w.heap.size w w' := by
  go_enter Try.func50, Try.ntmps50
  go_wp2_with fail
  exact retP Try.results50 rfl (Var.new (w.alloc (.cells (cel s) 25)) _ _ (w.heap.size + 1) (by simp)) ⟨rfl, below_alloc (below_alloc (Below.refl _ w) _) _⟩
theorem penters_end : Enters Try.prog 49 := enters_of Try.func49 (by kernel_rfl) rfl
theorem penters_control : Enters Try.prog 50 := enters_of Try.func50 (by kernel_rfl) rfl

/-- An affine map. -/
structure Mat where
  a : Int
  b : Int
  c : Int
  d : Int
  e : Int
  f : Int
abbrev mcel (m : Mat) : Array Value := #[.int .i64 m.a, .int .i64 m.b, .int .i64 m.c, .int .i64 m.d, .int .i64 m.e, .int .i64 m.f]
abbrev mat (m : Mat) : Value := .agg (mcel m)
open Classical in
/-- The image of a point, and Apply's error. -/
noncomputable def ap (m : Mat) (x y : Int) : Int × Int × Int :=
  if Af.Good m.a m.b m.c m.d m.e m.f ∧ Af.Wi 32767 [x, y] then
    if Af.Wi 32767 [Af.rnd (m.a * x + m.c * y + m.e) 4096, Af.rnd (m.b * x + m.d * y + m.f) 4096] then (Af.rnd (m.a * x + m.c * y + m.e) 4096, Af.rnd (m.b * x + m.d * y + m.f) 4096, 0) else (0, 0, 10)
  else (0, 0, 3)
theorem ap_is (m : Mat) (x y : Int) : Af.AppIs m.a m.b m.c m.d m.e m.f x y (pt (ap m x y).1 (ap m x y).2.1) (ap m x y).2.2 := by
  unfold ap Af.AppIs
  by_cases h : Af.Good m.a m.b m.c m.d m.e m.f ∧ Af.Wi 32767 [x, y]
  · rw [if_pos h, if_pos h]
    by_cases h2 : Af.Wi 32767 [Af.rnd (m.a * x + m.c * y + m.e) 4096, Af.rnd (m.b * x + m.d * y + m.f) 4096]
    · rw [if_pos h2]
      exact ⟨fun _ _ => ⟨rfl, rfl⟩, fun _ k => absurd h2 k, fun k => absurd rfl k⟩
    · rw [if_neg h2]
      exact ⟨fun _ k => absurd k h2, fun _ _ => ⟨rfl, rfl⟩, fun k => absurd rfl k⟩
  · rw [if_neg h, if_neg h]
    exact ⟨fun k => absurd k (by decide), fun k => absurd k (by decide), fun _ => ⟨rfl, rfl⟩⟩
theorem apply_any (m : Mat) (x y : Int) (w : World) : Calls Try.prog 20 #[mat m, pt x y] w fun e w' => e = .returned (.tuple #[pt (ap m x y).1 (ap m x y).2.1, .int .i64 (ap m x y).2.2]) ∧ Below w.heap.size w w' :=
  Af.app_any _ _ _ _ _ _ _ _ _ _ _ w (ap_is m x y)
theorem enters_apply : Enters Try.prog 20 := enters_of Try.func20 (by kernel_rfl) rfl

abbrev zS : Sg := ⟨0, 0, 0, 0, 0, 0⟩
abbrev zc : Array Value := #[.int .i64 0, .int .i64 0, .int .i64 0, .int .i64 0, .int .i64 0, .int .i64 0]
/-- The segment's image, and its error. -/
noncomputable def mapR (m : Mat) (s : Sg) : Sg × Int :=
  if s.k = 4 then (s, 0) else if (ap m s.x s.y).2.2 ≠ 0 then (zS, (ap m s.x s.y).2.2) else if s.k = 3 then
    if (ap m s.u s.v).2.2 ≠ 0 then (zS, (ap m s.u s.v).2.2) else (⟨s.k, (ap m s.x s.y).1, (ap m s.x s.y).2.1, (ap m s.u s.v).1, (ap m s.u s.v).2.1, s.w⟩, 0)
  else (⟨s.k, (ap m s.x s.y).1, (ap m s.x s.y).2.1, s.u, s.v, s.w⟩, 0)

section
variable {ρ : Operand → Value} {dst : Option Tmp} {ty : TypeId} {pos : String} {af : Array Edge} {x y : Operand} {w : World} {gd : Option (Nat × Bool)}
theorem run_loadMat {n : Nat} {m : Mat} (hx : ρ x = .pointer (some ⟨n, 0, none⟩)) (hV : Var w n (mcel m) 48) :
    (execOp ρ { dst := dst, op := .load 48 x, type := ty, pos := pos, after := af, guard := gd }).run Try.prog w = .ok (.value (mat m)) w := by
  obtain ⟨c0, c1, c2, c3, c4, c5, -⟩ := hV.read6
  go_simp
end
theorem run_extract2 {P : Program} {ρ : Operand → Value} {dst : Option Tmp} {ty : TypeId} {pos : String} {af : Array Edge} {x : Operand} {w : World} {gd : Option (Nat × Bool)} {vs : Array Value} {v : Value} {i : Nat} (hx : ρ x = .tuple vs) (hv : vs[i]? = some v) :
    (execOp ρ { dst := dst, op := .extract x i, type := ty, pos := pos, after := af, guard := gd }).run P w = .ok (.value v) w := by
  go_simp
theorem retSn {fn : Func} {p u : Tmp} {R : Ending → World → Prop} {tmps : Array Value} {w : World} {B : Nat} {s : Sg} {r : Int} (h : fn.results = #[.cell p 25, .tmp u]) (hp : tmps.getD p undef = .pointer (some ⟨B, 0, none⟩)) (hu : tmps.getD u undef = .int .i64 r)
    (hV : Var w B (cel s) 25) (hR : R (.returned (.tuple #[seg s, .int .i64 r])) w) : bodyPost Try.prog fn R .ret ⟨tmps, []⟩ w :=
  bodyPost_ret (v := .tuple #[seg s, .int .i64 r]) (by
    show (results fn tmps).run _ w = _
    have e := load6 hV
    rw [Array.getD_eq_getD_getElem?] at hp hu
    simp [results, h, hp, hu, asAddr, e]) rfl hR

theorem below_set6B {B : Nat} {w0 w : World} {b : Nat} {p q r s t u : Value} (h : Below B w0 w) (hb : B ≤ b) :
    Below B w0 ((((((w.setCell ⟨b, 0, none⟩ p).setCell ⟨b, 1, none⟩ q).setCell ⟨b, 2, none⟩ r).setCell ⟨b, 3, none⟩ s).setCell ⟨b, 4, none⟩ t).setCell ⟨b, 5, none⟩ u) :=
  (((((h.setCell (p := ⟨b, 0, none⟩) hb p).setCell (p := ⟨b, 1, none⟩) hb q).setCell (p := ⟨b, 2, none⟩) hb r).setCell (p := ⟨b, 3, none⟩) hb s).setCell (p := ⟨b, 4, none⟩) hb t).setCell (p := ⟨b, 5, none⟩) hb u
/-- While the image of the end is worked out. -/
structure M3 (W : World) (x y : Int) (L : Nat → Bool) (f : Nat → Value) (w : World) : Prop where
  b : Below W.heap.size W w
  a : L 7 = true → ∃ n c0 c1, f 6 = .pointer (some ⟨n, 0, none⟩) ∧ W.heap.size ≤ n ∧ Var w n #[c0, c1] 23
  s : L 8 = true → L 7 = true ∧ ∃ n, f 6 = .pointer (some ⟨n, 0, none⟩) ∧ W.heap.size ≤ n ∧ Var w n (pc x y) 23
theorem M3.next {W w w' : World} {x y : Int} {L : Nat → Bool} {f : Nat → Value} {i d : Nat} {v : Value} (h : M3 W x y L f w) (hb : Below w.heap.size w w') (h7 : Nat.beq 7 i = false) (h8 : Nat.beq 8 i = false) (h6 : Nat.beq 6 d = false) : M3 W x y (Iv.mark L i) (upd f d v) w' := by
  have e7 : Iv.mark L i 7 = L 7 := mark_ne (fun e => by subst e; rw [Nat.beq_refl] at h7; cases h7)
  have e8 : Iv.mark L i 8 = L 8 := mark_ne (fun e => by subst e; rw [Nat.beq_refl] at h8; cases h8)
  have e6 : upd f d v 6 = f 6 := upd_ne f v (fun e => by subst e; rw [Nat.beq_refl] at h6; cases h6)
  refine ⟨below_next h.b hb, fun k => ?_, fun k => ?_⟩
  · rw [e7] at k
    rw [e6]
    obtain ⟨n, c0, c1, k1, k2, k3⟩ := h.a k
    exact ⟨n, c0, c1, k1, k2, k3.next hb⟩
  · rw [e8] at k
    rw [e6, e7]
    obtain ⟨k0, n, k1, k2, k3⟩ := h.s k
    exact ⟨k0, n, k1, k2, k3.next hb⟩
theorem M3.alloc {W w : World} {x y : Int} {L : Nat → Bool} {f : Nat → Value} (h : M3 W x y L f w) (h7 : L 7 = false) : M3 W x y (Iv.mark L 7) (upd f 6 (.pointer (some ⟨w.heap.size, 0, none⟩))) (w.alloc (.cells (pc 0 0) 23)) :=
  ⟨below_alloc h.b _, fun _ => ⟨w.heap.size, _, _, rfl, h.b.size, Var.new w _ _ _ rfl⟩, fun k => absurd (h.s k).1 (by rw [h7]; decide)⟩

/-- While the image of the control point is worked out; the block of the point is b6. -/
structure M8 (W : World) (b6 : Nat) (x y : Int) (L : Nat → Bool) (f : Nat → Value) (w : World) : Prop where
  b : Below b6 W w
  lt : b6 < w.heap.size
  a : ∃ c0 c1, Var w b6 #[c0, c1] 23
  s : L 7 = true → Var w b6 (pc x y) 23
theorem M8.next {W w w' : World} {b6 : Nat} {x y : Int} {L : Nat → Bool} {f g : Nat → Value} {i : Nat} (h : M8 W b6 x y L f w) (hb : Below w.heap.size w w') (h7 : Nat.beq 7 i = false) : M8 W b6 x y (Iv.mark L i) g w' := by
  have e7 : Iv.mark L i 7 = L 7 := mark_ne (fun e => by subst e; rw [Nat.beq_refl] at h7; cases h7)
  refine ⟨h.b.trans (hb.mono (Nat.le_of_lt h.lt)), Nat.lt_of_lt_of_le h.lt hb.size, ?_, fun k => ?_⟩
  · obtain ⟨c0, c1, k⟩ := h.a; exact ⟨c0, c1, k.next hb⟩
  · rw [e7] at k; exact (h.s k).next hb

theorem mapSeg_close (s : Sg) (m : Mat) (w : World) (h4 : s.k = 4) : Calls Try.prog 36 #[seg s, mat m] w fun e w' => e = .returned (.tuple #[seg s, .int .i64 0]) ∧ Below w.heap.size w w' := by
  have hb4 : (s.k == 4) = true := by simp [h4]
  clear h4
  obtain ⟨W0, hW0⟩ : ∃ W0, W0 = ((w.alloc (.cells (cel s) 25)).alloc (.cells (mcel m) 48)).alloc (.cells zc 25) := ⟨_, rfl⟩
  have HS := hid (show Var W0 w.heap.size (cel s) 25 by rw [hW0]; exact ((Var.new w _ _ _ rfl).alloc _).alloc _)
  have HZ := hid (show Var W0 (w.heap.size + 2) zc 25 by rw [hW0]; exact Var.new ((w.alloc _).alloc _) _ _ _ (by simp))
  have HB := hid (show Below w.heap.size w W0 by rw [hW0]; exact below_alloc (below_alloc (below_alloc (Below.refl _ w) _) _) _)
  go_enter Try.func36, Try.ntmps36
  go_upto_region 1 with fail
  rw [show w.heap.size + 1 + 1 = w.heap.size + 2 from rfl]
  rw [← hW0]
  clear hW0
  obtain ⟨p0, p1, p2, p3, p4, p5, pf⟩ := HS.out.read6
  obtain ⟨q0, q1, q2, q3, q4, q5, qf⟩ := HZ.out.read6
  go_wp2_with fail
  exact retSn Try.results36 rfl rfl HZ.out.set6 ⟨rfl, below_set6 HB.out (by omega)⟩

set_option maxHeartbeats 3200000 in
set_option maxRecDepth 100000 in
theorem mapSeg_open (s : Sg) (m : Mat) (w : World) (h4 : s.k ≠ 4) : Calls Try.prog 36 #[seg s, mat m] w fun e w' => e = .returned (.tuple #[seg (mapR m s).1, .int .i64 (mapR m s).2]) ∧ Below w.heap.size w w' := by
  have hb4 : (s.k == 4) = false := by simp [h4]
  have HR := hid (show mapR m s = _ from (show mapR m s = if s.k = 4 then (s, 0) else _ from rfl).trans (if_neg h4))
  clear h4
  have HP := fun w => hid (apply_any m s.x s.y w)
  have HQ := fun w => hid (apply_any m s.u s.v w)
  generalize ap m s.x s.y = z at HP HR
  generalize ap m s.u s.v = z' at HQ HR
  obtain ⟨X, Y, r⟩ := z
  obtain ⟨X', Y', r'⟩ := z'
  simp only at HP HQ HR
  obtain ⟨B, hB⟩ : ∃ B, B = w.heap.size := ⟨_, rfl⟩
  obtain ⟨W0, hW0⟩ : ∃ W0, W0 = ((w.alloc (.cells (cel s) 25)).alloc (.cells (mcel m) 48)).alloc (.cells zc 25) := ⟨_, rfl⟩
  have HS := hid (show Var W0 B (cel s) 25 by rw [hW0, hB]; exact ((Var.new w _ _ _ rfl).alloc _).alloc _)
  have HM := hid (show Var W0 (B + 1) (mcel m) 48 by rw [hW0, hB]; exact (Var.new (w.alloc _) _ _ _ (by simp)).alloc _)
  have HZ := hid (show Var W0 (B + 2) zc 25 by rw [hW0, hB]; exact Var.new ((w.alloc _).alloc _) _ _ _ (by simp))
  have HB := hid (show Below B w W0 by rw [hW0, hB]; exact below_alloc (below_alloc (below_alloc (Below.refl _ w) _) _) _)
  go_enter Try.func36, Try.ntmps36
  go_upto_region 1 with fail
  rw [show w.heap.size + 1 + 1 = w.heap.size + 2 from rfl]
  rw [← hW0, ← hB]
  have HBE := hid hB.symm
  clear hW0 hB
  obtain ⟨p0, p1, p2, p3, p4, p5, pf⟩ := HS.out.read6
  go_upto_region 3 with fail
  clear p0 p1 p2 p3 p4 p5 pf
  have LS := fun w1 (h : Below W0.heap.size W0 w1) => (HS.out.next h).segAt
  have LM := fun w1 (h : Below W0.heap.size W0 w1) => HM.out.next h
  rename_i Kn_hK3 hK3
  refine Iv.wp_region_inv (n := 50) (TJ [some 13, some 14, some 15, some 16, some 12, some 17, some 18, none, none, some 7]
      [mat m, seg s, pt s.x s.y, .tuple #[pt X Y, .int .i64 r], .tuple #[pt X Y, .int .i64 r], pt X Y, .int .i64 r, undef, undef, .int .i64 r]
      [(2, .pointer (some ⟨B, 0, none⟩)), (3, .pointer (some ⟨B + 1, 0, none⟩)), (4, .pointer (some ⟨B + 2, 0, none⟩)), (5, .int .i64 0)] (M3 W0 X Y)) _ (by kernel_rfl) (by kernel_rfl) (Is.start _ rfl) ?_ ?_ ?_
  · refine ⟨fun i d _ h => (by cases h), fun q hq => ?_, ⟨(Below.refl _ _).drew, fun h => (by cases h), fun h => (by cases h)⟩⟩
    simp only [List.mem_cons, List.not_mem_nil, or_false] at hq
    rcases hq with rfl | rfl | rfl | rfl
    all_goals rfl
  · exact ⟨tj_val rfl rfl rfl (fun L f w h => h.next (Below.refl _ w) rfl rfl rfl) rfl fun L f w hL hdep H => run_loadMat (H.x (3, .pointer (some ⟨B + 1, 0, none⟩)) (by simp)) (LM w H.m.b),
    tj_val rfl rfl rfl (fun L f w h => h.next (Below.refl _ w) rfl rfl rfl) rfl fun L f w hL hdep H => run_loadSeg (H.x (2, .pointer (some ⟨B, 0, none⟩)) (by simp)) (LS w H.m.b),
    tj_call rfl rfl rfl (fun L f w w1 hb h => h.next hb rfl rfl rfl) rfl fun L f w hL hdep H => ⟨_, (run_call1 rfl penters_end).trans (by rw [show env f (.tmp 14) = seg s from (H.t 1 14 rfl (hdep ⟨1, .data⟩ (by simp) rfl))]), pend_any s w⟩,
    tj_call rfl rfl rfl (fun L f w w1 hb h => h.next hb rfl rfl rfl) rfl fun L f w hL hdep H => ⟨_, (run_call2 rfl enters_apply).trans (by rw [show env f (.tmp 13) = mat m from (H.t 0 13 rfl (hdep ⟨0, .data⟩ (by simp) rfl)), show env f (.tmp 15) = pt s.x s.y from (H.t 2 15 rfl (hdep ⟨2, .data⟩ (by simp) rfl))]), (HP w).out⟩,
    tj_val rfl rfl rfl (fun L f w h => h.next (Below.refl _ w) rfl rfl rfl) rfl fun L f w hL hdep H => congrArg (fun v => Result.ok (Next.value v) w) (H.t 3 16 rfl (hdep ⟨3, .data⟩ (by simp) rfl)),
    tj_val rfl rfl rfl (fun L f w h => h.next (Below.refl _ w) rfl rfl rfl) rfl fun L f w hL hdep H => run_extract2 (vs := #[pt X Y, .int .i64 r]) (i := 0) (H.t 4 12 rfl (hdep ⟨4, .data⟩ (by simp) rfl)) rfl,
    tj_val rfl rfl rfl (fun L f w h => h.next (Below.refl _ w) rfl rfl rfl) rfl fun L f w hL hdep H => run_extract2 (vs := #[pt X Y, .int .i64 r]) (i := 1) (H.t 4 12 rfl (hdep ⟨4, .data⟩ (by simp) rfl)) rfl,
    tj_any rfl rfl rfl fun L f w hL hdep H => ⟨_, _, run_allocPt, H.m.alloc hL⟩,
    tj_store rfl fun L f w hL hdep H => by
      have h7 := hdep ⟨7, .data⟩ (by simp) rfl
      obtain ⟨n, c0, c1, k1, k2, k3⟩ := H.m.a h7
      exact ⟨_, run_storePt k1 (H.t 5 17 rfl (hdep ⟨5, .data⟩ (by simp) rfl)) k3, below_set2 H.m.b k2, fun _ => ⟨n, _, _, k1, k2, k3.set2⟩, fun _ => ⟨mark_le h7, n, k1, k2, k3.set2⟩⟩,
    tj_val rfl rfl rfl (fun L f w h => h.next (Below.refl _ w) rfl rfl rfl) rfl fun L f w hL hdep H => congrArg (fun v => Result.ok (Next.value v) w) (H.t 6 18 rfl (hdep ⟨6, .data⟩ (by simp) rfl)), trivial⟩
  intro L f act w3 hall H ha
  refine hK3 _ _ ?_
  obtain ⟨-, b6, k6, hb6, hv6⟩ := H.m.s (hall 8 (by decide))
  have k2 := H.x (2, .pointer (some ⟨B, 0, none⟩)) (by simp)
  have k3 := H.x (3, .pointer (some ⟨B + 1, 0, none⟩)) (by simp)
  have k4 := H.x (4, .pointer (some ⟨B + 2, 0, none⟩)) (by simp)
  have k5 := H.x (5, .int .i64 0) (by simp)
  have k7 : f 7 = .int .i64 r := H.t 9 7 rfl (hall 9 (by decide))
  have hw := ha.whole
  rw [show ((List.range 50).map f).toArray = #[f 0, f 1, f 2, f 3, f 4, f 5, f 6, f 7, f 8, f 9, f 10, f 11, f 12, f 13, f 14, f 15, f 16, f 17, f 18, f 19, f 20, f 21, f 22, f 23, f 24, f 25, f 26, f 27, f 28, f 29, f 30, f 31, f 32, f 33, f 34, f 35, f 36, f 37, f 38, f 39, f 40, f 41, f 42, f 43, f 44, f 45, f 46, f 47, f 48, f 49] from rfl, show f 2 = _ from k2, show f 3 = _ from k3, show f 4 = _ from k4, show f 5 = _ from k5, show f 6 = _ from k6, show f 7 = _ from k7] at hw
  rw [hw]
  clear hw ha
  have HV6 := hid hv6
  have HB6 := hid H.m.b
  clear H hall hK3 LS LM k2 k3 k4 k5 k6 k7 hv6
  have HBS := hid (show B + 2 < W0.heap.size from HZ.out.lt)
  have HS3 := hid (HS.out.next HB6.out)
  have HM3 := hid (HM.out.next HB6.out)
  have HZ3 := hid (HZ.out.next HB6.out)
  have HB3 := hid (HB.out.trans (HB6.out.mono (by have := HBS.out; omega)))
  have hb63 : B + 2 < b6 := Nat.lt_of_lt_of_le HBS.out hb6
  clear HS HM HZ HB HB6 HBS hb6 HP
  by_cases hr : r = 0
  case neg =>
    have hne : (r != 0) = true := by simp [hr]
    replace HR := hid (HR.out.trans (if_pos hr))
    clear hr HQ
    obtain ⟨q0, q1, q2, q3, q4, q5, qf⟩ := HZ3.out.read6
    go_wp2_with fail
    exact retSn Try.results36 rfl rfl HZ3.out.set6 ⟨by rw [HR.out], HBE.out.symm ▸ below_set6B HB3.out (by omega)⟩
  case pos =>
    subst hr
    replace HR := hid (HR.out.trans (if_neg (fun k => k rfl)))
    have HV6L := hid (HV6.out.lt)
    obtain ⟨s0, s1, s2, s3, s4, s5, sf⟩ := HS3.out.read6
    obtain ⟨i0, i1, if_⟩ := HV6.out.read2
    have hbB : B ≠ b6 := by omega
    go_upto_region 6 with fail
    rename_i Kn6 hK6
    have key : Kn6 ⟨#[f 0, f 1, .pointer (some ⟨B, 0, none⟩), .pointer (some ⟨B + 1, 0, none⟩), .pointer (some ⟨B + 2, 0, none⟩), .int .i64 0, .pointer (some ⟨b6, 0, none⟩), .int .i64 0, f 8, f 9, f 10, f 11, f 12, f 13, f 14, f 15, f 16, f 17, f 18, .int .i64 0, .bool false, f 21, f 22, .pointer (some ⟨b6, 0, none⟩), .int .i64 X, .pointer (some ⟨b6, 1, none⟩), .int .i64 Y, .pointer (some ⟨B, 1, none⟩), .pointer (some ⟨B, 2, none⟩), f 29, f 30, f 31, f 32, f 33, f 34, f 35, f 36, f 37, f 38, f 39, f 40, f 41, f 42, f 43, f 44, f 45, f 46, f 47, f 48, f 49], []⟩ ((w3.setCell ⟨B, 1, none⟩ (.int .i64 X)).setCell ⟨B, 2, none⟩ (.int .i64 Y)).drew := by
      refine hK6 _ _ ?_
      have HS6 := hid (show Var ((w3.setCell ⟨B, 1, none⟩ (.int .i64 X)).setCell ⟨B, 2, none⟩ (.int .i64 Y)).drew B (cel ⟨s.k, X, Y, s.u, s.v, s.w⟩) 25 from ((HS3.out.set (i := 1) (.int .i64 X)).set (i := 2) (.int .i64 Y)).drew)
      have HM6 := hid (((HM3.out.far (p := ⟨B, 1, none⟩) (by show B + 1 ≠ B; omega) (.int .i64 X)).far (p := ⟨B, 2, none⟩) (by show B + 1 ≠ B; omega) (.int .i64 Y)).drew)
      have HZ6 := hid (((HZ3.out.far (p := ⟨B, 1, none⟩) (by show B + 2 ≠ B; omega) (.int .i64 X)).far (p := ⟨B, 2, none⟩) (by show B + 2 ≠ B; omega) (.int .i64 Y)).drew)
      have HP6 := hid (((HV6.out.far (p := ⟨B, 1, none⟩) (by show b6 ≠ B; omega) (.int .i64 X)).far (p := ⟨B, 2, none⟩) (by show b6 ≠ B; omega) (.int .i64 Y)).drew)
      have HB6 := hid (((HB3.out.setCell (p := ⟨B, 1, none⟩) (Nat.le_refl B) (.int .i64 X)).setCell (p := ⟨B, 2, none⟩) (Nat.le_refl B) (.int .i64 Y)).drew)
      clear s0 s1 s2 s3 s4 s5 sf i0 i1 if_ HV6L HV6 HS3 HM3 HZ3 HB3 hK6
      generalize ((w3.setCell _ _).setCell _ _).drew = W6 at HS6 HM6 HZ6 HP6 HB6 ⊢
      obtain ⟨s0, s1, s2, s3, s4, s5, sf⟩ := HS6.out.read6
      by_cases h3 : s.k = 3
      case neg =>
        have hb3 : (s.k == 3) = false := by simp [h3]
        replace HR := hid (HR.out.trans (if_neg h3))
        clear h3
        obtain ⟨q0, q1, q2, q3, q4, q5, qf⟩ := HZ6.out.read6
        go_wp2_with fail
        exact retSn Try.results36 rfl rfl HZ6.out.set6 ⟨by rw [HR.out], HBE.out.symm ▸ below_set6B HB6.out (by omega)⟩
      case pos =>
        have hb3 : (s.k == 3) = true := by simp [h3]
        replace HR := hid (HR.out.trans (if_pos h3))
        clear h3
        go_upto_region 8 with fail
        clear s0 s1 s2 s3 s4 s5 sf
        have LS := fun w1 (h : Below b6 W6 w1) => (HS6.out.below h (by omega)).segAt
        have LM := fun w1 (h : Below b6 W6 w1) => HM6.out.below h (by omega)
        have hlt6 := HP6.out.lt
        rename_i Kn_hK8 hK8
        refine Iv.wp_region_inv (n := 50) (TJ [some 33, some 34, some 35, some 36, some 32, some 37, some 38, none, some 7]
            [mat m, seg ⟨s.k, X, Y, s.u, s.v, s.w⟩, pt s.u s.v, .tuple #[pt X' Y', .int .i64 r'], .tuple #[pt X' Y', .int .i64 r'], pt X' Y', .int .i64 r', undef, .int .i64 r']
            [(2, .pointer (some ⟨B, 0, none⟩)), (3, .pointer (some ⟨B + 1, 0, none⟩)), (4, .pointer (some ⟨B + 2, 0, none⟩)), (5, .int .i64 0), (6, .pointer (some ⟨b6, 0, none⟩))] (M8 W6 b6 X' Y')) _ (by kernel_rfl) (by kernel_rfl) (Is.start _ rfl) ?_ ?_ ?_
        · refine ⟨fun i d _ h => (by cases h), fun q hq => ?_, ⟨(Below.refl _ _).drew, hlt6, ⟨_, _, HP6.out.drew⟩, fun h => (by cases h)⟩⟩
          simp only [List.mem_cons, List.not_mem_nil, or_false] at hq
          rcases hq with rfl | rfl | rfl | rfl | rfl
          all_goals rfl
        · exact ⟨tj_val rfl rfl rfl (fun L f w h => h.next (Below.refl _ w) rfl) rfl fun L f w hL hdep H => run_loadMat (H.x (3, .pointer (some ⟨B + 1, 0, none⟩)) (by simp)) (LM w H.m.b),
    tj_val rfl rfl rfl (fun L f w h => h.next (Below.refl _ w) rfl) rfl fun L f w hL hdep H => run_loadSeg (H.x (2, .pointer (some ⟨B, 0, none⟩)) (by simp)) (LS w H.m.b),
    tj_call rfl rfl rfl (fun L f w w1 hb h => h.next hb rfl) rfl fun L f w hL hdep H => ⟨_, (run_call1 rfl penters_control).trans (by rw [show env f (.tmp 34) = seg ⟨s.k, X, Y, s.u, s.v, s.w⟩ from (H.t 1 34 rfl (hdep ⟨1, .data⟩ (by simp) rfl))]), pcontrol_any ⟨s.k, X, Y, s.u, s.v, s.w⟩ w⟩,
    tj_call rfl rfl rfl (fun L f w w1 hb h => h.next hb rfl) rfl fun L f w hL hdep H => ⟨_, (run_call2 rfl enters_apply).trans (by rw [show env f (.tmp 33) = mat m from (H.t 0 33 rfl (hdep ⟨0, .data⟩ (by simp) rfl)), show env f (.tmp 35) = pt s.u s.v from (H.t 2 35 rfl (hdep ⟨2, .data⟩ (by simp) rfl))]), (HQ w).out⟩,
    tj_val rfl rfl rfl (fun L f w h => h.next (Below.refl _ w) rfl) rfl fun L f w hL hdep H => congrArg (fun v => Result.ok (Next.value v) w) (H.t 3 36 rfl (hdep ⟨3, .data⟩ (by simp) rfl)),
    tj_val rfl rfl rfl (fun L f w h => h.next (Below.refl _ w) rfl) rfl fun L f w hL hdep H => run_extract2 (vs := #[pt X' Y', .int .i64 r']) (i := 0) (H.t 4 32 rfl (hdep ⟨4, .data⟩ (by simp) rfl)) rfl,
    tj_val rfl rfl rfl (fun L f w h => h.next (Below.refl _ w) rfl) rfl fun L f w hL hdep H => run_extract2 (vs := #[pt X' Y', .int .i64 r']) (i := 1) (H.t 4 32 rfl (hdep ⟨4, .data⟩ (by simp) rfl)) rfl,
    tj_store rfl fun L f w hL hdep H => by
      obtain ⟨c0, c1, k3⟩ := H.m.a
      exact ⟨_, run_storePt (H.x (6, .pointer (some ⟨b6, 0, none⟩)) (by simp)) (H.t 5 37 rfl (hdep ⟨5, .data⟩ (by simp) rfl)) k3, below_set2 H.m.b (Nat.le_refl _), by have := H.m.lt; simpa using this, ⟨_, _, k3.set2⟩, fun _ => k3.set2⟩,
    tj_val rfl rfl rfl (fun L f w h => h.next (Below.refl _ w) rfl) rfl fun L f w hL hdep H => congrArg (fun v => Result.ok (Next.value v) w) (H.t 6 38 rfl (hdep ⟨6, .data⟩ (by simp) rfl)), trivial⟩
        intro L f act w8 hall H ha
        refine hK8 _ _ ?_
        have HV8 := hid (H.m.s (hall 7 (by decide)))
        have HB8 := hid H.m.b
        have k2 := H.x (2, .pointer (some ⟨B, 0, none⟩)) (by simp)
        have k3 := H.x (3, .pointer (some ⟨B + 1, 0, none⟩)) (by simp)
        have k4 := H.x (4, .pointer (some ⟨B + 2, 0, none⟩)) (by simp)
        have k5 := H.x (5, .int .i64 0) (by simp)
        have k6 := H.x (6, .pointer (some ⟨b6, 0, none⟩)) (by simp)
        have k7 : f 7 = .int .i64 r' := H.t 8 7 rfl (hall 8 (by decide))
        have hw := ha.whole
        rw [show ((List.range 50).map f).toArray = #[f 0, f 1, f 2, f 3, f 4, f 5, f 6, f 7, f 8, f 9, f 10, f 11, f 12, f 13, f 14, f 15, f 16, f 17, f 18, f 19, f 20, f 21, f 22, f 23, f 24, f 25, f 26, f 27, f 28, f 29, f 30, f 31, f 32, f 33, f 34, f 35, f 36, f 37, f 38, f 39, f 40, f 41, f 42, f 43, f 44, f 45, f 46, f 47, f 48, f 49] from rfl, show f 2 = _ from k2, show f 3 = _ from k3, show f 4 = _ from k4, show f 5 = _ from k5, show f 6 = _ from k6, show f 7 = _ from k7] at hw
        rw [hw]
        clear hw ha
        clear H hall hK8 LS LM k2 k3 k4 k5 k6 k7
        have HS8 := hid (HS6.out.below HB8.out (by omega))
        have HZ8 := hid (HZ6.out.below HB8.out (by omega))
        have HBX := hid (HB6.out.trans (HB8.out.mono (by omega)))
        clear HS6 HM6 HZ6 HP6 HB6 HB8
        by_cases hr : r' = 0
        case neg =>
          have hne : (r' != 0) = true := by simp [hr]
          replace HR := hid (HR.out.trans (if_pos hr))
          clear hr HQ
          obtain ⟨q0, q1, q2, q3, q4, q5, qf⟩ := HZ8.out.read6
          go_wp2_with fail
          exact retSn Try.results36 rfl rfl HZ8.out.set6 ⟨by rw [HR.out], HBE.out.symm ▸ below_set6B HBX.out (by omega)⟩
        case pos =>
          subst hr
          replace HR := hid (HR.out.trans (if_neg (fun k => k rfl)))
          obtain ⟨s0, s1, s2, s3, s4, s5, sf⟩ := HS8.out.read6
          obtain ⟨i0, i1, if_⟩ := HV8.out.read2
          go_upto_region 11 with fail
          rename_i Kn11 hK11
          have key : Kn11 ⟨#[f 0, f 1, .pointer (some ⟨B, 0, none⟩), .pointer (some ⟨B + 1, 0, none⟩), .pointer (some ⟨B + 2, 0, none⟩), .int .i64 0, .pointer (some ⟨b6, 0, none⟩), .int .i64 0, f 8, f 9, f 10, f 11, f 12, f 13, f 14, f 15, f 16, f 17, f 18, f 19, f 20, f 21, f 22, f 23, f 24, f 25, f 26, f 27, f 28, f 29, f 30, f 31, f 32, f 33, f 34, f 35, f 36, f 37, f 38, .int .i64 0, .bool false, f 41, f 42, .pointer (some ⟨b6, 0, none⟩), .int .i64 X', .pointer (some ⟨b6, 1, none⟩), .int .i64 Y', .pointer (some ⟨B, 3, none⟩), .pointer (some ⟨B, 4, none⟩), f 49], []⟩ ((w8.setCell ⟨B, 3, none⟩ (.int .i64 X')).setCell ⟨B, 4, none⟩ (.int .i64 Y')).drew := by
            refine hK11 _ _ ?_
            have HSY := hid (show Var ((w8.setCell ⟨B, 3, none⟩ (.int .i64 X')).setCell ⟨B, 4, none⟩ (.int .i64 Y')).drew B (cel ⟨s.k, X, Y, X', Y', s.w⟩) 25 from ((HS8.out.set (i := 3) (.int .i64 X')).set (i := 4) (.int .i64 Y')).drew)
            have HZY := hid (((HZ8.out.far (p := ⟨B, 3, none⟩) (by show B + 2 ≠ B; omega) (.int .i64 X')).far (p := ⟨B, 4, none⟩) (by show B + 2 ≠ B; omega) (.int .i64 Y')).drew)
            have HBY := hid (((HBX.out.setCell (p := ⟨B, 3, none⟩) (Nat.le_refl B) (.int .i64 X')).setCell (p := ⟨B, 4, none⟩) (Nat.le_refl B) (.int .i64 Y')).drew)
            clear s0 s1 s2 s3 s4 s5 sf i0 i1 if_ HV8 HS8 HZ8 HBX hK11
            generalize ((w8.setCell _ _).setCell _ _).drew = WY at HSY HZY HBY ⊢
            obtain ⟨s0, s1, s2, s3, s4, s5, sf⟩ := HSY.out.read6
            obtain ⟨q0, q1, q2, q3, q4, q5, qf⟩ := HZY.out.read6
            go_wp2_with fail
            exact retSn Try.results36 rfl rfl HZY.out.set6 ⟨by rw [HR.out], HBE.out.symm ▸ below_set6B HBY.out (by omega)⟩
          go_region_with fail
          all_goals exact key
    go_region_with fail
    all_goals exact key

theorem mapSeg_any (s : Sg) (m : Mat) (w : World) : Calls Try.prog 36 #[seg s, mat m] w fun e w' => e = .returned (.tuple #[seg (mapR m s).1, .int .i64 (mapR m s).2]) ∧ Below w.heap.size w w' := by
  by_cases h4 : s.k = 4
  · rw [show mapR m s = (s, 0) from if_pos h4]
    exact mapSeg_close s m w h4
  · exact mapSeg_open s m w h4

end Go.Proofs.Ytcdedefhofkbhaa
