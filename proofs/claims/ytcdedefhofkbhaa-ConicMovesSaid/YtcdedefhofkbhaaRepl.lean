/- What division, end and replacement of package conic return. -/
import Derived.Test.YtcdedefhofkbhaaFlt
import Derived.Test.YtcdedefhofkbhaaSlc
namespace Go.Proofs.Ytcdedefhofkbhaa
open Go Go.RowKit
set_option linter.unusedVariables false
set_option linter.unusedSimpArgs false

set_option maxHeartbeats 800000 in
theorem division_any (c : Cu) (w : World) (hc : InC c) :
    Calls Try.prog 43 #[cuv c] w fun e w' => e = .returned (.int .i64 c.dv) ∧ Below w.heap.size w w' := by
  have HC := hid hc
  clear hc
  have HD := hid (show c.dv = dvF c.flat 9 1 from rfl)
  obtain ⟨W, hW⟩ : ∃ W, W = w.alloc (.cells (ccel c) 74) := ⟨_, rfl⟩
  have HV := hid (show Var W w.heap.size (ccel c) 74 by rw [hW]; exact Var.new w _ _ _ rfl)
  have HB := hid (show Below w.heap.size w W by rw [hW]; exact below_alloc (Below.refl _ w) _)
  generalize c.dv = D at HD
  go_enter Try.func43, Try.ntmps43
  go_upto_region 1 with fail
  rw [← hW]
  clear hW
  go_wp2_with fail
  go_loopw [3] (fun s3 wr => ∃ (f n : Nat), s3 = .int .i64 n ∧ Hid (n * 2 ^ f = 512) ∧ 1 ≤ n ∧ n ≤ 512 ∧ Hid (D = dvF c.flat f n) ∧ Hid (Var wr w.heap.size (ccel c) 74) ∧ Hid (Below w.heap.size w wr)) (fun s3 _ => 512 - (intOf s3).toNat)
  case atStart => exact ⟨9, 1, rfl, hid (by decide), by omega, by omega, HD, HV, HB⟩
  case round =>
    obtain ⟨f, n, rfl, HN, hn1, hn2, HE, HV1, HB1⟩ := hrel
    clear HD HV HB
    cases f with
    | zero =>
      have hn : n = 512 := by have := HN.out; simpa using this
      subst hn
      have HE' := hid (show D = 512 from HE.out)
      clear HE HN
      go_wp2_with fail
      go_ret
      exact ⟨ret1_int (by rw [HE'.out]), HB1.out⟩
    | succ f =>
      have hlt : n < 512 := by
        have h := HN.out
        rw [Nat.pow_succ] at h
        have h1 : 1 ≤ 2 ^ f := Nat.one_le_two_pow
        have h2 := Nat.mul_le_mul_left n (show 2 ≤ 2 ^ f * 2 by omega)
        omega
      have HN2 := hid (show 2 * n * 2 ^ f = 512 by have h := HN.out; rw [Nat.pow_succ] at h; rw [Nat.mul_assoc, Nat.mul_left_comm, Nat.mul_comm 2]; exact h)
      have h256 : n ≤ 256 := by
        have h := HN2.out
        have h1 : 1 ≤ 2 ^ f := Nat.one_le_two_pow
        have h2 := Nat.mul_le_mul_left (2 * n) h1
        omega
      clear HN
      have hlt' : ((n : Int)) < 512 := by omega
      have hltb : decide ((n : Int) < 512) = true := by simp; omega
      obtain ⟨p0, p1, p2, p3, p4, p5, p6, pf⟩ := HV1.out.read7
      go_wp2_with fail
      clear p0 p1 p2 p3 p4 p5 p6 pf
      (with_reducible refine (isFlat_any c n _ HC.out hn1 hn2).mono ?_); rintro x0 w1 ⟨rfl, hb⟩
      have HV2 := hid (HV1.out.next hb)
      have HB2 := hid (below_next HB1.out hb)
      clear hb HV1 HB1
      cases hf : c.flat n
      · have HE2 := hid (show D = dvF c.flat f (2 * n) by have h := HE.out; unfold dvF at h; rw [hf] at h; exact h)
        clear hf HE
        go_wp2_with fail
        go_roundw
        case rel => exact ⟨f, 2 * n, by go_num, HN2, by omega, by omega, HE2, HV2, HB2⟩
        case measure => simp [intOf]; omega
      · have HE2 := hid (show D = n by have h := HE.out; unfold dvF at h; rw [hf] at h; exact h)
        clear hf HE
        go_wp2_with fail
        go_ret
        exact ⟨ret1_int (by rw [HE2.out]), HB2.out⟩

theorem end_any (s : Sg) (w : World) : Calls Try.prog 30 #[seg s] w fun e w' => e = .returned (pt s.x s.y) ∧ Below w.heap.size w w' := by
  go_enter Try.func30, Try.ntmps30
  go_wp2
  exact retP (x := s.x) (y := s.y) Try.results30 rfl (Var.new (w.alloc _) _ _ (w.heap.size + 1) (by simp)) ⟨rfl, below_alloc (below_alloc (Below.refl _ w) _) _⟩

/-! ### rows of points -/
/-- The cells of points, one behind the other. -/
def pfl (ps : List P2) : List Value := ps.flatMap fun p => [.int .i64 p.x, .int .i64 p.y]
theorem pfl_length : ∀ ps : List P2, (pfl ps).length = ps.length * 2
  | [] => rfl
  | p :: r => by
    have := pfl_length r
    show (([.int .i64 p.x, .int .i64 p.y] : List Value) ++ pfl r).length = _
    rw [List.length_append, this]
    simp; omega
theorem pfl_append (a b : List P2) : pfl (a ++ b) = pfl a ++ pfl b := by simp [pfl]
theorem pfl_get : ∀ (ps : List P2) (i : Nat) (p : P2), ps[i]? = some p → (pfl ps)[i * 2]? = some (.int .i64 p.x) ∧ (pfl ps)[i * 2 + 1]? = some (.int .i64 p.y)
  | q :: r, 0, p, h => by
    obtain rfl : q = p := by simpa using h
    exact ⟨rfl, rfl⟩
  | q :: r, i + 1, p, h => by
    have := pfl_get r i p (by simpa using h)
    show ((.int .i64 q.x : Value) :: .int .i64 q.y :: pfl r)[(i + 1) * 2]? = _ ∧ ((.int .i64 q.x : Value) :: .int .i64 q.y :: pfl r)[(i + 1) * 2 + 1]? = _
    rw [show (i + 1) * 2 = i * 2 + 1 + 1 by omega]
    simpa using this
/-- A list of cells that has the points' cells is the points' cells. -/
theorem pfl_of {ps : List P2} {cs : List Value} (hl : cs.length = ps.length * 2) (h : ∀ i p, ps[i]? = some p → cs[i * 2]? = some (.int .i64 p.x) ∧ cs[i * 2 + 1]? = some (.int .i64 p.y)) : cs = pfl ps := by
  apply List.ext_getElem?
  intro j
  rcases Nat.lt_or_ge j (ps.length * 2) with hj | hj
  · obtain ⟨i, r, rfl, hr⟩ : ∃ i r, j = i * 2 + r ∧ r < 2 := ⟨j / 2, j % 2, by omega, by omega⟩
    have hi : i < ps.length := by omega
    have h1 := h i _ (List.getElem?_eq_getElem hi)
    have h2 := pfl_get ps i _ (List.getElem?_eq_getElem hi)
    rcases (show r = 0 ∨ r = 1 by omega) with rfl | rfl
    · exact h1.1.trans h2.1.symm
    · exact h1.2.trans h2.2.symm
  · rw [List.getElem?_eq_none (by omega), List.getElem?_eq_none (by rw [pfl_length]; omega)]
theorem pfl_int (ps : List P2) : ∀ u ∈ pfl ps, u.oneCell' = true := by
  intro u hu
  obtain ⟨p, _, hp⟩ := List.mem_flatMap.1 hu
  rcases (by simpa using hp : u = .int .i64 p.x ∨ u = .int .i64 p.y) with rfl | rfl <;> rfl
theorem own_of_var {w : World} {B g : Nat} {ps : List P2} {cs : Array Value} (hv : Var w g cs 23) (hB : B ≤ g) (hc : cs.toList = pfl ps) (hm : ps.length ≤ maxLen) :
    w.ownsRow B 23 2 (.slice (some ⟨g, 0, none⟩) ps.length ps.length) ps.length (pfl ps) := by
  have hs : cs.size = ps.length * 2 := by rw [← Array.length_toList, hc, pfl_length]
  exact ⟨pfl_length ps, .inr ⟨g, ps.length, cs, rfl, hB, hv, Nat.le_refl _, hm, hs, by rw [hc, List.take_of_length_le (by rw [pfl_length]; exact Nat.le_refl _)]⟩⟩
/-- A call that returns a new row of points. -/
def GivesPts (ps : List P2) (w : World) (e : Ending) (w' : World) : Prop := ∃ v, e = .returned v ∧ w'.ownsRow w.heap.size 23 2 v ps.length (pfl ps) ∧ Below w.heap.size w w'
/-! ### replacement -/
def cuOf (p : P2) (s : Sg) : Cu := ⟨p, ⟨s.u, s.v⟩, ⟨s.x, s.y⟩, s.w⟩
/-- The points that replace a segment. -/
def replP (p : P2) (s : Sg) : List P2 := if s.k = 2 then [⟨s.x, s.y⟩] else (cuOf p s).pts
theorem enters_end : Enters Try.prog 30 := enters_of Try.func30 (by kernel_rfl) rfl

set_option maxHeartbeats 800000 in
theorem repl_line (p : P2) (s : Sg) (w : World) (h : s.k = 2) : Calls Try.prog 29 #[ptv p, seg s] w (GivesPts [⟨s.x, s.y⟩] w) := by
  have h2 : (s.k == 2) = true := by simp [h]
  clear h
  obtain ⟨W, hW⟩ : ∃ W, W = (w.alloc (.cells (pcel p) 23)).alloc (.cells (cel s) 25) := ⟨_, rfl⟩
  have HS := hid (show Var W (w.heap.size + 1) (cel s) 25 by rw [hW]; exact Var.new (w.alloc _) _ _ _ (by simp))
  have HB := hid (show Below w.heap.size w W by rw [hW]; exact below_alloc (below_alloc (Below.refl _ w) _) _)
  go_enter Try.func29, Try.ntmps29
  go_upto_region 1 with fail
  rw [← hW]
  clear hW
  obtain ⟨p0, p1, p2, p3, p4, p5, pf⟩ := HS.out.read6
  go_wp2_with fail
  clear p0 p1 p2 p3 p4 p5 pf
  (with_reducible refine (end_any s _).mono ?_); rintro x0 w1 ⟨rfl, hb⟩
  have HB1 := hid (below_next HB.out hb)
  clear hb HB HS
  go_wp2_with fail
  go_ret
  exact ⟨_, rfl, own_of_var (ps := [⟨s.x, s.y⟩]) (Var.new w1 _ _ _ rfl) HB1.out.size rfl (by show 1 ≤ maxLen; unfold maxLen; decide), below_alloc HB1.out _⟩

theorem infoPt : (Try.prog.info? 23).map (fun i => (i.zero, i.size, i.bytes)) = some (some (pt 0 0), 2, 16) := by kernel_rfl
theorem run_makePts {ρ : Operand → Value} {dst : Option Tmp} {ty : TypeId} {pos : String} {af : Array Edge} {x y : Operand} {w : World} {gd : Option (Nat × Bool)} {n : Nat} (hx : ρ x = .int .i64 n) (hy : ρ y = .int .i64 n) (hn : n ≤ 100000) :
    ∃ w', (execOp ρ { dst := dst, op := .makeSlice 27 x y, type := ty, pos := pos, after := af, guard := gd }).run Try.prog w = .ok (.value (.slice (some ⟨w.heap.size, 0, none⟩) n n)) w' ∧
      ∃ cs : Array Value, Var w' w.heap.size cs 23 ∧ cs.size = n * 2 ∧ Below w.heap.size w w' := by
  have e := infoPt
  cases hi : Try.prog.info? 23 with
  | none => rw [hi] at e; cases e
  | some i =>
    rw [hi] at e
    simp only [Option.map_some, Option.some.injEq, Prod.mk.injEq] at e
    obtain ⟨w', hr, ho, hg⟩ := run_make_full (P := Try.prog) w w.heap.size 27 23 i (pt 0 0) 2 (by kernel_rfl) hi e.1 e.2.1 .i64 .i64 n (by rw [e.2.2]; omega) (by unfold maxLen; omega) (Nat.le_refl _)
    refine ⟨w', by simp [execOp, hx, hy, hr, Result.andThen], ?_⟩
    rcases ho.2 with ⟨hv, _⟩ | ⟨g, cap, cur, hv, hb, hh, hc1, hc2, hsz, _⟩
    · cases hv
    · injection hv with hv _ hcap
      injection hv with hv
      injection hv with hv
      subst hv hcap
      exact ⟨cur, hh, hsz, ⟨hg.os, hg.tape, hg.output, hg.size, fun k hk => hg.block k hk (by simp)⟩⟩
theorem addr0 (g n : Nat) : (⟨g, 0, none⟩ : Addr).add n = ⟨g, n, none⟩ := by
  unfold Addr.add
  split
  · subst_vars; rfl
  · simp
theorem set_row {cs : Array Value} {k : Nat} {f : Nat → P2} (hk : k * 2 + 1 < cs.size) (h : ∀ j, j < k → cs[j * 2]? = some (.int .i64 (f j).x) ∧ cs[j * 2 + 1]? = some (.int .i64 (f j).y)) :
    ∀ j, j < k + 1 → ((cs.setIfInBounds (k * 2) (.int .i64 (f k).x)).setIfInBounds (k * 2 + 1) (.int .i64 (f k).y))[j * 2]? = some (.int .i64 (f j).x) ∧ ((cs.setIfInBounds (k * 2) (.int .i64 (f k).x)).setIfInBounds (k * 2 + 1) (.int .i64 (f k).y))[j * 2 + 1]? = some (.int .i64 (f j).y) := by
  intro j hj
  by_cases e : j = k
  · subst e
    constructor
    · rw [Array.getElem?_setIfInBounds_ne (by omega), Array.getElem?_setIfInBounds_self_of_lt (by omega)]
    · rw [Array.getElem?_setIfInBounds_self_of_lt (by simp; omega)]
  · rw [Array.getElem?_setIfInBounds_ne (by omega), Array.getElem?_setIfInBounds_ne (by omega), Array.getElem?_setIfInBounds_ne (by omega), Array.getElem?_setIfInBounds_ne (by omega)]
    exact h j (by omega)
theorem pts_at {c : Cu} {k : Nat} (h : k < c.dv) : c.pts[k]? = some (c.at ((k + 1 : Nat) : Int) c.dv) := by
  unfold Cu.pts
  rw [List.getElem?_map, List.getElem?_range h]
  rfl

set_option maxHeartbeats 3200000 in
set_option maxRecDepth 100000 in
theorem repl_curve (p : P2) (s : Sg) (w : World) (h : s.k = 3) (hc : InC (cuOf p s)) : Calls Try.prog 29 #[ptv p, seg s] w (GivesPts (cuOf p s).pts w) := by
  have h2 : (s.k == 2) = false := by simp [h]
  have HC := hid hc
  clear h hc
  have HD := hid (dv_bd (cuOf p s))
  obtain ⟨W, hW⟩ : ∃ W, W = (w.alloc (.cells (pcel p) 23)).alloc (.cells (cel s) 25) := ⟨_, rfl⟩
  have HP := hid (show Var W w.heap.size (pcel p) 23 by rw [hW]; exact (Var.new w _ _ _ rfl).alloc _)
  have HS := hid (show Var W (w.heap.size + 1) (cel s) 25 by rw [hW]; exact Var.new (w.alloc _) _ _ _ (by simp))
  have HB := hid (show Below w.heap.size w W by rw [hW]; exact below_alloc (below_alloc (Below.refl _ w) _) _)
  go_enter Try.func29, Try.ntmps29
  go_upto_region 1 with fail
  rw [← hW]
  clear hW
  obtain ⟨p0, p1, p2, p3, p4, p5, pf⟩ := HS.out.read6
  go_upto_region 3 with fail
  clear p0 p1 p2 p3 p4 p5 pf
  have LP := fun w1 (h : Below W.heap.size W w1) => HP.out.next h
  have LS := fun w1 (h : Below W.heap.size W w1) => HS.out.next h
  rename_i Kn hKn
  refine Iv.wp_region_inv (n := 45) (TJ [some 15, some 16, some 17, some 18, some 19, some 20, some 21, some 22, some 23, some 24, some 25, none, none]
      [ptv p, .pointer (some ⟨w.heap.size + 1, 3, none⟩), .int .i64 s.u, .pointer (some ⟨w.heap.size + 1, 4, none⟩), .int .i64 s.v, pt s.u s.v, seg s, pt s.x s.y, .pointer (some ⟨w.heap.size + 1, 5, none⟩), .int .i64 s.w, cuv (⟨p, ⟨s.u, s.v⟩, ⟨s.x, s.y⟩, s.w⟩), undef, undef]
      [(2, .pointer (some ⟨w.heap.size, 0, none⟩)), (3, .pointer (some ⟨w.heap.size + 1, 0, none⟩))] (MB W [⟨11, 12, 5, ccel (cuOf p s), 74⟩])) _ (by kernel_rfl) (by kernel_rfl) (Is.start _ rfl) ?_ ?_ ?_
  · refine ⟨fun i d _ h => (by cases h), fun q hq => ?_, MB.start W _ _⟩
    simp only [List.mem_cons, List.not_mem_nil, or_false] at hq
    rcases hq with rfl | rfl
    all_goals rfl
  · exact ⟨nb_val rfl rfl rfl rfl rfl fun L f wx hL hdep H => run_loadPt (H.x (2, .pointer (some ⟨w.heap.size, 0, none⟩)) (by simp)) (LP wx H.m.b),
    nb_val rfl rfl rfl rfl rfl fun L f wx hL hdep H => run_fld_seg3 (H.x (3, .pointer (some ⟨w.heap.size + 1, 0, none⟩)) (by simp)),
    nb_val rfl rfl rfl rfl rfl fun L f wx hL hdep H => run_load_int (H.t 1 16 rfl (hdep ⟨1, .data⟩ (by simp) rfl)) ((LS wx H.m.b).cell 3),
    nb_val rfl rfl rfl rfl rfl fun L f wx hL hdep H => run_fld_seg4 (H.x (3, .pointer (some ⟨w.heap.size + 1, 0, none⟩)) (by simp)),
    nb_val rfl rfl rfl rfl rfl fun L f wx hL hdep H => run_load_int (H.t 3 18 rfl (hdep ⟨3, .data⟩ (by simp) rfl)) ((LS wx H.m.b).cell 4),
    nb_val rfl rfl rfl rfl rfl fun L f wx hL hdep H => run_buildPt (H.t 2 17 rfl (hdep ⟨2, .data⟩ (by simp) rfl)) (H.t 4 19 rfl (hdep ⟨4, .data⟩ (by simp) rfl)),
    nb_val rfl rfl rfl rfl rfl fun L f wx hL hdep H => run_loadSegV (H.x (3, .pointer (some ⟨w.heap.size + 1, 0, none⟩)) (by simp)) (LS wx H.m.b),
    nb_call rfl rfl rfl rfl rfl fun L f wx hL hdep H => ⟨_, (run_call1 rfl enters_end).trans (by rw [show env f (.tmp 21) = seg s from (H.t 6 21 rfl (hdep ⟨6, .data⟩ (by simp) rfl))]), end_any s wx⟩,
    nb_val rfl rfl rfl rfl rfl fun L f wx hL hdep H => run_fld_seg5 (H.x (3, .pointer (some ⟨w.heap.size + 1, 0, none⟩)) (by simp)),
    nb_val rfl rfl rfl rfl rfl fun L f wx hL hdep H => run_load_int (H.t 8 23 rfl (hdep ⟨8, .data⟩ (by simp) rfl)) ((LS wx H.m.b).cell 5),
    nb_val rfl rfl rfl rfl rfl fun L f wx hL hdep H => run_buildCu (H.t 0 15 rfl (hdep ⟨0, .data⟩ (by simp) rfl)) (H.t 5 20 rfl (hdep ⟨5, .data⟩ (by simp) rfl)) (H.t 7 22 rfl (hdep ⟨7, .data⟩ (by simp) rfl)) (H.t 9 24 rfl (hdep ⟨9, .data⟩ (by simp) rfl)),
    nb_new (q := ⟨11, 12, 5, ccel (cuOf p s), 74⟩) (c := #[.int .i64 0, .int .i64 0, .int .i64 0, .int .i64 0, .int .i64 0, .int .i64 0, .int .i64 0]) (by simp) (like_cons (.inl rfl) (like_nil _)) (ne_of_beq rfl) rfl rfl rfl rfl rfl rfl fun f w => run_allocCu,
    nb_store (q := ⟨11, 12, 5, ccel (cuOf p s), 74⟩) (by simp) (like_cons (.inl rfl) (like_nil _)) (ne_of_beq rfl) rfl rfl ⟨⟨11, .data⟩, by simp, rfl, rfl⟩ fun L f wx m c0 hdep H hp hm hv hs => by
      obtain ⟨u0, u1, u2, u3, u4, u5, u6, rfl⟩ := size7 hs
      exact ⟨_, run_storeCu hp (H.t 10 25 rfl (hdep ⟨10, .data⟩ (by simp) rfl)) hv, below_set7 H.m.b hm, hv.set7, same7⟩, trivial⟩
  intro L f act w1 hall H ha
  refine hKn _ _ ?_
  have k2 : f 2 = .pointer (some ⟨w.heap.size, 0, none⟩) := H.x (2, .pointer (some ⟨w.heap.size, 0, none⟩)) (by simp)
  have k3 : f 3 = .pointer (some ⟨w.heap.size + 1, 0, none⟩) := H.x (3, .pointer (some ⟨w.heap.size + 1, 0, none⟩)) (by simp)
  obtain ⟨b5, k5, hb5, hv5⟩ := H.m.done (q := ⟨11, 12, 5, ccel (cuOf p s), 74⟩) (hall 11 (by decide)) (hall 12 (by decide)) (by simp)
  have HBW := hid H.m.b
  have hw := ha.whole
  rw [show ((List.range 45).map f).toArray = #[f 0, f 1, f 2, f 3, f 4, f 5, f 6, f 7, f 8, f 9, f 10, f 11, f 12, f 13, f 14, f 15, f 16, f 17, f 18, f 19, f 20, f 21, f 22, f 23, f 24, f 25, f 26, f 27, f 28, f 29, f 30, f 31, f 32, f 33, f 34, f 35, f 36, f 37, f 38, f 39, f 40, f 41, f 42, f 43, f 44] from rfl] at hw
  rw [k2, k3, k5] at hw
  subst hw
  clear ha H hall hKn k2 k3 k5 Kn
  clear L
  have HB1 := hid (below_next HB.out HBW.out)
  have HV5 := hid hv5
  have HL5 := hid (show w.heap.size ≤ b5 from Nat.le_trans HB.out.size hb5)
  clear hv5 hb5 HB HBW HP HS LP LS W
  obtain ⟨p0, p1, p2, p3, p4, p5, p6, pf⟩ := HV5.out.read7
  go_wp2_with fail
  clear p0 p1 p2 p3 p4 p5 p6 pf
  (with_reducible refine (division_any (cuOf p s) _ HC.out).mono ?_); rintro x0 w2 ⟨rfl, hb⟩
  have HV52 := hid (HV5.out.next hb)
  have HB2 := hid (below_next HB1.out hb)
  clear hb HV5 HB1
  generalize hD : (cuOf p s).dv = D at HD ⊢
  have HDD := hid hD
  clear hD
  have hd1 := HD.out.1
  have hd2 := HD.out.2
  go_upto_region 5 with fail
  rename_i Kn hKn
  refine wp_region_lit ?_
  refine sq_start (n := 45) rfl fun a0 hs0 => ?_
  have ha0 := ((((((hs0.pin 2 (v := .pointer (some ⟨w.heap.size, 0, none⟩)) rfl).pin 3 (v := .pointer (some ⟨w.heap.size + 1, 0, none⟩)) rfl).pin 4 (v := f 4) rfl).pin 5 (v := .pointer (some ⟨b5, 0, none⟩)) rfl).pin 6 (v := .int .i64 D) rfl))
  clear hs0
  generalize (fun i => Array.getD _ i undef) = g0 at ha0
  refine sq_val (v := .int .i64 D) ha0 rfl rfl fun a1 ha1 => ?_
  obtain ⟨w3, hmk, cs, hcs, hsz, hbm⟩ := run_makePts (ρ := env (upd _ 28 (.int .i64 D))) (x := .tmp 28) (y := .tmp 28) (n := D) (w := w2) rfl rfl (by omega)
  refine sq_val (v := .slice (some ⟨w2.heap.size, 0, none⟩) D D) ha1 rfl hmk fun a2 ha2 => ?_
  refine sq_val (v := .slice (some ⟨w2.heap.size, 0, none⟩) D D) ha2 rfl rfl fun a3 ha3 => ?_
  refine wpList_nil ?_
  refine hKn _ _ ?_
  obtain ⟨gA, hg9, k2, k3, k5, k6, k7⟩ : ∃ g9, Is a3 45 g9 ∧ g9 2 = .pointer (some ⟨w.heap.size, 0, none⟩) ∧ g9 3 = .pointer (some ⟨w.heap.size + 1, 0, none⟩) ∧ g9 5 = .pointer (some ⟨b5, 0, none⟩) ∧ g9 6 = .int .i64 (D) ∧ g9 7 = .slice (some ⟨w2.heap.size, 0, none⟩) D D := ⟨_, ha3, rfl, rfl, rfl, rfl, rfl⟩
  have hw := hg9.whole
  rw [show ((List.range 45).map gA).toArray = #[gA 0, gA 1, gA 2, gA 3, gA 4, gA 5, gA 6, gA 7, gA 8, gA 9, gA 10, gA 11, gA 12, gA 13, gA 14, gA 15, gA 16, gA 17, gA 18, gA 19, gA 20, gA 21, gA 22, gA 23, gA 24, gA 25, gA 26, gA 27, gA 28, gA 29, gA 30, gA 31, gA 32, gA 33, gA 34, gA 35, gA 36, gA 37, gA 38, gA 39, gA 40, gA 41, gA 42, gA 43, gA 44] from rfl] at hw
  rw [k2, k3, k5, k6, k7] at hw
  subst hw
  clear hg9 k2 k3 k5 k6 k7
  have HG := hid hcs
  have HLG := hid (show w.heap.size ≤ w2.heap.size from HB2.out.size)
  have HNE := hid (show b5 < w2.heap.size from HV52.out.lt)
  have HV53 := hid (HV52.out.next hbm)
  have HB3 := hid (below_next HB2.out hbm)
  have HSZ := hid hsz
  clear ha0 ha1 ha2 ha3 hKn Kn hmk hcs hsz hbm HV52 HB2
  generalize w2.heap.size = bg at HG HLG HNE ⊢
  go_wp2_with fail
  go_loopw [32] (fun s32 wr => ∃ (k : Nat) (cs : Array Value), k ≤ D ∧ s32 = .int .i64 k ∧ Hid (Var wr bg cs 23) ∧ Hid (cs.size = D * 2) ∧ Hid (∀ j, j < k → cs[j * 2]? = some (.int .i64 ((cuOf p s).at ((j + 1 : Nat) : Int) D).x) ∧ cs[j * 2 + 1]? = some (.int .i64 ((cuOf p s).at ((j + 1 : Nat) : Int) D).y)) ∧ Hid (Var wr b5 (ccel (cuOf p s)) 74) ∧ Hid (Below w.heap.size w wr)) (fun s32 _ => D - (intOf s32).toNat)
  case atStart => exact ⟨0, cs, Nat.zero_le _, rfl, HG, HSZ, hid (fun j hj => by omega), HV53, HB3⟩
  case round =>
    obtain ⟨k, cs, hk, rfl, HG, HSZ, HF, HV5, HB⟩ := hrel
    clear HV53 HB3
    by_cases hlt : k < D
    · go_upto_region 9 with fail
      have HKI := hid (inK HC.out.w hd1 (show D ≤ 1024 by omega) (show k + 1 ≤ D from hlt))
      rename_i Kn hKn
      refine wp_region_lit ?_
      refine sq_start (n := 45) rfl fun a0 hs0 => ?_
      have ha0 := ((((((((((((((((((((((((((((((((((hs0.pin 0 (v := gA 0) rfl).pin 1 (v := gA 1) rfl).pin 2 (v := .pointer (some ⟨w.heap.size, 0, none⟩)) rfl).pin 3 (v := .pointer (some ⟨w.heap.size + 1, 0, none⟩)) rfl).pin 4 (v := gA 4) rfl).pin 5 (v := .pointer (some ⟨b5, 0, none⟩)) rfl).pin 6 (v := .int .i64 (D)) rfl).pin 7 (v := .slice (some ⟨bg, 0, none⟩) D D) rfl).pin 8 (v := .int .i64 (k)) rfl).pin 9 (v := gA 9) rfl).pin 10 (v := gA 10) rfl).pin 11 (v := gA 11) rfl).pin 12 (v := gA 12) rfl).pin 13 (v := gA 13) rfl).pin 14 (v := gA 14) rfl).pin 15 (v := gA 15) rfl).pin 16 (v := gA 16) rfl).pin 17 (v := gA 17) rfl).pin 18 (v := gA 18) rfl).pin 19 (v := gA 19) rfl).pin 20 (v := gA 20) rfl).pin 21 (v := gA 21) rfl).pin 22 (v := gA 22) rfl).pin 23 (v := gA 23) rfl).pin 24 (v := gA 24) rfl).pin 25 (v := gA 25) rfl).pin 26 (v := gA 26) rfl).pin 27 (v := gA 27) rfl).pin 28 (v := gA 28) rfl).pin 29 (v := gA 29) rfl).pin 30 (v := .slice (some ⟨bg, 0, none⟩) D D) rfl).pin 31 (v := .int .i64 (D)) rfl).pin 32 (v := .int .i64 (k)) rfl).pin 44 (v := gA 44) rfl)
      clear hs0
      generalize (fun i => Array.getD _ i undef) = g0 at ha0
      refine sq_val ha0 rfl rfl fun a1 ha1 => ?_
      refine sq_val ha1 rfl rfl fun a2 ha2 => ?_
      refine sq_val ha2 rfl (run_loadCu rfl HV5.out) fun a3 ha3 => ?_
      refine sq_val ha3 rfl rfl fun a4 ha4 => ?_
      refine sq_val ha4 rfl (run_add rfl rfl (by unfold Rg; omega)) fun a5 ha5 => ?_
      refine sq_val ha5 rfl rfl fun a6 ha6 => ?_
      refine sq_call (v := undef) (G := fun v w1 => v = ptv ((cuOf p s).at ((k + 1 : Nat) : Int) D) ∧ Below wr.heap.size wr w1) ha6 rfl (run_call3 rfl enters_at) ((at_any (cuOf p s) ((k + 1 : Nat) : Int) D wr HC.out HKI.out).mono fun e w1 h => ⟨_, h.1, rfl, h.2⟩) fun v w1 a7 hv ha7 => ?_
      obtain ⟨hv, hb⟩ := hv
      subst hv
      refine sq_val (v := .pointer (some ⟨bg, k * 2, none⟩)) ha7 rfl ((run_indexPt (a := ⟨bg, 0, none⟩) (j := k) rfl rfl (by omega) (by omega)).trans (by rw [addr0, Int.toNat_natCast])) fun a8 ha8 => ?_
      have hv1 := HG.out.next hb
      have hsz := HSZ.out
      refine sq_skip ha8 (run_storeRow rfl rfl hv1 (by omega)) fun a9 ha9 => ?_
      refine wpList_nil ?_
      refine hKn _ _ ?_
      obtain ⟨g9, hg9, k0, k1, k2, k3, k4, k5, k6, k7, k8, k9, k10, k11, k12, k13, k14, k15, k16, k17, k18, k19, k20, k21, k22, k23, k24, k25, k26, k27, k28, k29, k30, k31, k32, k44⟩ : ∃ g9, Is a9 45 g9 ∧ g9 0 = gA 0 ∧ g9 1 = gA 1 ∧ g9 2 = .pointer (some ⟨w.heap.size, 0, none⟩) ∧ g9 3 = .pointer (some ⟨w.heap.size + 1, 0, none⟩) ∧ g9 4 = gA 4 ∧ g9 5 = .pointer (some ⟨b5, 0, none⟩) ∧ g9 6 = .int .i64 (D) ∧ g9 7 = .slice (some ⟨bg, 0, none⟩) D D ∧ g9 8 = .int .i64 (k) ∧ g9 9 = gA 9 ∧ g9 10 = gA 10 ∧ g9 11 = gA 11 ∧ g9 12 = gA 12 ∧ g9 13 = gA 13 ∧ g9 14 = gA 14 ∧ g9 15 = gA 15 ∧ g9 16 = gA 16 ∧ g9 17 = gA 17 ∧ g9 18 = gA 18 ∧ g9 19 = gA 19 ∧ g9 20 = gA 20 ∧ g9 21 = gA 21 ∧ g9 22 = gA 22 ∧ g9 23 = gA 23 ∧ g9 24 = gA 24 ∧ g9 25 = gA 25 ∧ g9 26 = gA 26 ∧ g9 27 = gA 27 ∧ g9 28 = gA 28 ∧ g9 29 = gA 29 ∧ g9 30 = .slice (some ⟨bg, 0, none⟩) D D ∧ g9 31 = .int .i64 (D) ∧ g9 32 = .int .i64 (k) ∧ g9 44 = gA 44 := ⟨_, ha9, rfl, rfl, rfl, rfl, rfl, rfl, rfl, rfl, rfl, rfl, rfl, rfl, rfl, rfl, rfl, rfl, rfl, rfl, rfl, rfl, rfl, rfl, rfl, rfl, rfl, rfl, rfl, rfl, rfl, rfl, rfl, rfl, rfl, rfl⟩
      have hw := hg9.whole
      rw [show ((List.range 45).map g9).toArray = #[g9 0, g9 1, g9 2, g9 3, g9 4, g9 5, g9 6, g9 7, g9 8, g9 9, g9 10, g9 11, g9 12, g9 13, g9 14, g9 15, g9 16, g9 17, g9 18, g9 19, g9 20, g9 21, g9 22, g9 23, g9 24, g9 25, g9 26, g9 27, g9 28, g9 29, g9 30, g9 31, g9 32, g9 33, g9 34, g9 35, g9 36, g9 37, g9 38, g9 39, g9 40, g9 41, g9 42, g9 43, g9 44] from rfl] at hw
      rw [k0, k1, k2, k3, k4, k5, k6, k7, k8, k9, k10, k11, k12, k13, k14, k15, k16, k17, k18, k19, k20, k21, k22, k23, k24, k25, k26, k27, k28, k29, k30, k31, k32, k44] at hw
      subst hw
      clear hg9 k0 k1 k2 k3 k4 k5 k6 k7 k8 k9 k10 k11 k12 k13 k14 k15 k16 k17 k18 k19 k20 k21 k22 k23 k24 k25 k26 k27 k28 k29 k30 k31 k32 k44
      have HG1 := hid ((hv1.set (i := k * 2) (.int .i64 ((cuOf p s).at ((k + 1 : Nat) : Int) D).x)).set (i := k * 2 + 1) (.int .i64 ((cuOf p s).at ((k + 1 : Nat) : Int) D).y))
      have HV1 := hid ((((HV5.out.next hb).far (p := ⟨bg, k * 2, none⟩) (Nat.ne_of_lt HNE.out) (.int .i64 ((cuOf p s).at ((k + 1 : Nat) : Int) D).x))).far (p := ⟨bg, k * 2 + 1, none⟩) (Nat.ne_of_lt HNE.out) (.int .i64 ((cuOf p s).at ((k + 1 : Nat) : Int) D).y))
      have HB1 := hid (((below_next HB.out hb).setCell (p := ⟨bg, k * 2, none⟩) HLG.out (.int .i64 ((cuOf p s).at ((k + 1 : Nat) : Int) D).x)).setCell (p := ⟨bg, k * 2 + 1, none⟩) HLG.out (.int .i64 ((cuOf p s).at ((k + 1 : Nat) : Int) D).y))
      generalize (w1.setCell _ _).setCell _ _ = w4 at HG1 HV1 HB1 ⊢
      have HSZ1 := hid (show ((cs.setIfInBounds (k * 2) (.int .i64 ((cuOf p s).at ((k + 1 : Nat) : Int) D).x)).setIfInBounds (k * 2 + 1) (.int .i64 ((cuOf p s).at ((k + 1 : Nat) : Int) D).y)).size = D * 2 by simp; omega)
      have HF1 := hid (set_row (cs := cs) (k := k) (f := fun j => (cuOf p s).at ((j + 1 : Nat) : Int) D) (by omega) HF.out)
      clear ha0 ha1 ha2 ha3 ha4 ha5 ha6 ha7 ha8 ha9 hKn Kn hb hv1 hsz HG HV5 HB HF HSZ HKI w1
      generalize (cs.setIfInBounds (k * 2) _).setIfInBounds (k * 2 + 1) _ = cs1 at HG1 HSZ1 HF1
      go_wp2_with fail
      go_roundw
      case rel => exact ⟨k + 1, cs1, by omega, by go_num, HG1, HSZ1, HF1, HV1, HB1⟩
      case measure => simp [intOf]; omega
    · have hkd : k = D := by omega
      subst hkd
      clear hlt
      go_wp2_with fail
      go_ret
      refine ⟨_, rfl, ?_, HB.out⟩
      have hl : (cuOf p s).pts.length = k := by rw [pts_length]; exact HDD.out
      have he : cs.toList = pfl (cuOf p s).pts := pfl_of (by rw [Array.length_toList, hl]; exact HSZ.out) fun i q hq => by
        have hi : i < k := by
          rcases Nat.lt_or_ge i k with h | h
          · exact h
          · rw [List.getElem?_eq_none (by omega)] at hq; cases hq
        have hp := pts_at (c := cuOf p s) (k := i) (by rw [HDD.out]; exact hi)
        rw [hq] at hp
        cases hp
        have := HF.out i hi
        rw [HDD.out]
        simpa using this
      have := own_of_var HG.out HLG.out he (by rw [hl]; unfold maxLen; omega)
      rw [hl] at this ⊢
      exact this

end Go.Proofs.Ytcdedefhofkbhaa
