/- The points of a segment: end, control and points of package path. -/
import Derived.Test.YtbdpjdhnmllkiaaDoorInv
namespace Go.Proofs.YtbdpjdhnmllkiaaDoor
open Go Go.RowKit
set_option linter.unusedVariables false

theorem loadPt {w : World} {B : Nat} {x y : Int} (hV : Var w B #[.int .i64 x, .int .i64 y] 36) : (loadVar 36 ⟨B, 0, none⟩).run Tryd.prog w = .ok (pt x y) w := by
  obtain ⟨c0, c1, -⟩ := hV.read2
  simp [go_sem, *]
theorem retPt {fn : Func} {p : Tmp} {R : Ending → World → Prop} {tmps : Array Value} {w : World} {B : Nat} {x y : Int} (h : fn.results = #[.cell p 36]) (hp : tmps.getD p undef = .pointer (some ⟨B, 0, none⟩))
    (hV : Var w B #[.int .i64 x, .int .i64 y] 36) (hR : R (.returned (pt x y)) w) : bodyPost Tryd.prog fn R .ret ⟨tmps, []⟩ w :=
  bodyPost_ret (v := pt x y) (by
    show (results fn tmps).run _ w = _
    have e := loadPt hV
    have hp' := hp
    rw [Array.getD_eq_getD_getElem?] at hp'
    simp [results, h, hp', asAddr, e]) rfl hR

theorem end_any (s : Sg) (w : World) : Calls Tryd.prog 42 #[seg s] w fun e w' => e = .returned (pt s.x s.y) ∧ Below w.heap.size w w' := by
  go_enter Tryd.func42, Tryd.ntmps42
  go_wp2_with fail
  exact retPt Tryd.results42 rfl (Var.new (w.alloc (.cells (cel s) 32)) _ _ (w.heap.size + 1) (by simp)) ⟨rfl, below_alloc (below_alloc (Below.refl _ w) _) _⟩
theorem control_any (s : Sg) (w : World) : Calls Tryd.prog 64 #[seg s] w fun e w' => e = .returned (pt s.u s.v) ∧ Below w.heap.size w w' := by
  go_enter Tryd.func64, Tryd.ntmps64
  go_wp2_with fail
  exact retPt Tryd.results64 rfl (Var.new (w.alloc (.cells (cel s) 32)) _ _ (w.heap.size + 1) (by simp)) ⟨rfl, below_alloc (below_alloc (Below.refl _ w) _) _⟩
theorem enters_end : Enters Tryd.prog 42 := enters_of Tryd.func42 (by kernel_rfl) rfl
theorem enters_control : Enters Tryd.prog 64 := enters_of Tryd.func64 (by kernel_rfl) rfl

/-- The points that are written in a segment. -/
def pts (s : Sg) : List (Int × Int) := if s.k = 3 then [(s.u, s.v), (s.x, s.y)] else if s.k = 4 then [] else [(s.x, s.y)]
def flatP (ps : List (Int × Int)) : List Value := ps.flatMap fun p => [.int .i64 p.1, .int .i64 p.2]

/-- What stands while the points of a curve are gathered. -/
structure J (W : World) (s : Sg) (p0 : Addr) (L : Nat → Bool) (f : Nat → Value) (w : World) : Prop where
  b : Below W.heap.size W w
  k0 : f 0 = seg s
  k1 : f 1 = .pointer (some p0)
  a0 : L 0 = true → f 7 = seg s
  a1 : L 1 = true → f 8 = pt s.u s.v
  a2 : L 2 = true → f 9 = seg s
  a3 : L 3 = true → f 10 = pt s.x s.y
  a4 : L 4 = true → ∃ g, f 11 = .slice (some ⟨g, 0, none⟩) 2 2 ∧ W.heap.size ≤ g ∧ Var w g #[.int .i64 s.u, .int .i64 s.v, .int .i64 s.x, .int .i64 s.y] 36
  a5 : L 5 = true → L 4 = true ∧ f 2 = f 11

section
variable {ρ : Operand → Value} {dst : Option Tmp} {ty : TypeId} {pos : String} {af : Array Edge} {x y : Operand} {w : World} {gd : Option (Nat × Bool)}
theorem run_lit2 {a b c d : Int} (hx : ρ x = pt a b) (hy : ρ y = pt c d) :
    (execOp ρ { dst := dst, op := .buildSlice 68 2 #[(0, x), (1, y)], type := ty, pos := pos, after := af, guard := gd }).run Tryd.prog w = .ok (.value (.slice (some ⟨w.heap.size, 0, none⟩) 2 2)) (w.alloc (.cells #[.int .i64 a, .int .i64 b, .int .i64 c, .int .i64 d] 36)) := by
  go_simp
end

set_option maxHeartbeats 1000000 in
set_option maxRecDepth 100000 in
theorem points_curve (s : Sg) (w : World) (h3 : s.k = 3) : Calls Tryd.prog 43 #[seg s] w fun e w' => (∃ g, e = .returned (.slice (some ⟨g, 0, none⟩) 2 2) ∧ w.heap.size ≤ g ∧ Var w' g #[.int .i64 s.u, .int .i64 s.v, .int .i64 s.x, .int .i64 s.y] 36) ∧ Below w.heap.size w w' := by
  have hb3 : (s.k == 3) = true := by simp [h3]
  clear h3
  obtain ⟨W, hW⟩ : ∃ W, W = w.alloc (.cells (cel s) 32) := ⟨_, rfl⟩
  have HV := hid (show Var W w.heap.size (cel s) 32 by rw [hW]; exact Var.new _ _ _ _ rfl)
  have HB := hid (show Below w.heap.size w W by rw [hW]; exact below_alloc (Below.refl _ w) _)
  go_enter Tryd.func43, Tryd.ntmps43
  go_upto_region 3 with fail
  rw [← hW]
  clear hW
  rename_i Kn hKn
  have LS := fun w1 (h : Below W.heap.size W w1) => HV.out.segAt.below h HV.out.lt
  refine Iv.wp_region_inv (n := 17) (J W s ⟨w.heap.size, 0, none⟩) _ (by kernel_rfl) (by kernel_rfl) (Is.start _ rfl) ?_ ?_ ?_
  · exact ⟨(Below.refl _ W).drew, rfl, rfl, fun h => absurd h (by decide), fun h => absurd h (by decide), fun h => absurd h (by decide), fun h => absurd h (by decide), fun h => absurd h (by decide), fun h => absurd h (by decide)⟩
  · refine ⟨⟨by intro d hd; cases hd; decide, fun L f w1 hL hdep H => ⟨fun hw => ?_, fun hw => by cases hw⟩⟩, ⟨by intro d hd; cases hd; decide, fun L f w1 hL hdep H => ⟨fun hw => ?_, fun hw => by cases hw⟩⟩, ⟨by intro d hd; cases hd; decide, fun L f w1 hL hdep H => ⟨fun hw => ?_, fun hw => by cases hw⟩⟩,
      ⟨by intro d hd; cases hd; decide, fun L f w1 hL hdep H => ⟨fun hw => ?_, fun hw => by cases hw⟩⟩, ⟨by intro d hd; cases hd; decide, fun L f w1 hL hdep H => ⟨fun hw => ?_, fun hw => by cases hw⟩⟩, ⟨by intro d hd; cases hd; decide, fun L f w1 hL hdep H => ⟨fun hw => ?_, fun hw => by cases hw⟩⟩, trivial⟩
    · rw [run_loadSeg (s := s) H.k1 (LS w1 H.b)]
      exact ⟨H.b, H.k0, H.k1, fun _ => rfl, H.a1, H.a2, H.a3, H.a4, fun h => ⟨(H.a5 h).1, (H.a5 h).2⟩⟩
    · have d0 := hdep ⟨0, .data⟩ (by simp) rfl
      rw [run_call1 rfl enters_control]
      refine (show Calls _ _ #[f 7] _ _ from ?_)
      rw [H.a0 d0]
      exact (control_any s w1).mono fun e w2 ⟨he, hb⟩ => ⟨_, he, below_next H.b hb, H.k0, H.k1, H.a0, fun _ => rfl, H.a2, H.a3, fun h => by obtain ⟨g, h1, h0, h2⟩ := H.a4 h; exact ⟨g, h1, h0, h2.next hb⟩, fun h => ⟨(H.a5 h).1, (H.a5 h).2⟩⟩
    · rw [run_loadSeg (s := s) H.k1 (LS w1 H.b)]
      exact ⟨H.b, H.k0, H.k1, H.a0, H.a1, fun _ => rfl, H.a3, H.a4, fun h => ⟨(H.a5 h).1, (H.a5 h).2⟩⟩
    · have d0 := hdep ⟨2, .data⟩ (by simp) rfl
      rw [run_call1 rfl enters_end]
      refine (show Calls _ _ #[f 9] _ _ from ?_)
      rw [H.a2 d0]
      exact (end_any s w1).mono fun e w2 ⟨he, hb⟩ => ⟨_, he, below_next H.b hb, H.k0, H.k1, H.a0, H.a1, H.a2, fun _ => rfl, fun h => by obtain ⟨g, h1, h0, h2⟩ := H.a4 h; exact ⟨g, h1, h0, h2.next hb⟩, fun h => ⟨(H.a5 h).1, (H.a5 h).2⟩⟩
    · have d1 := hdep ⟨1, .data⟩ (by simp) rfl
      have d3 := hdep ⟨3, .data⟩ (by simp) rfl
      rw [run_lit2 (H.a1 d1) (H.a3 d3)]
      exact ⟨below_alloc H.b _, H.k0, H.k1, H.a0, H.a1, H.a2, H.a3, fun _ => ⟨w1.heap.size, rfl, H.b.size, Var.new w1 _ _ _ rfl⟩, fun h => absurd (H.a5 h).1 (by rw [hL]; decide)⟩
    · have d4 := hdep ⟨4, .data⟩ (by simp) rfl
      refine (show J W s ⟨w.heap.size, 0, none⟩ (Iv.mark L 5) (upd f 2 (f 11)) w1 from ?_)
      exact ⟨H.b, H.k0, H.k1, H.a0, H.a1, H.a2, H.a3, H.a4, fun _ => ⟨d4, rfl⟩⟩
  · intro L f a w1 hall H ha
    obtain ⟨g, h1, h0, h2⟩ := H.a4 (hall 4 (by decide))
    have hgw : w.heap.size ≤ g := Nat.le_trans HB.out.size h0
    have h3 := (H.a5 (hall 5 (by decide))).2.trans h1
    refine hKn _ _ ?_
    have hw := ha.whole
    rw [show ((List.range 17).map f).toArray = #[f 0, f 1, f 2, f 3, f 4, f 5, f 6, f 7, f 8, f 9, f 10, f 11, f 12, f 13, f 14, f 15, f 16] from rfl, h3] at hw
    rw [hw]
    have HE := hid (below_next HB.out H.b)
    have HG := hid h2
    clear hw ha h1 h0 h2 h3 H hall hKn LS
    go_wp2_with fail
    go_ret
    exact ⟨⟨g, rfl, hgw, HG.out⟩, HE.out⟩
theorem points_one (s : Sg) (w : World) (h3 : s.k ≠ 3) (h4 : s.k ≠ 4) : Calls Tryd.prog 43 #[seg s] w fun e w' => (∃ g, e = .returned (.slice (some ⟨g, 0, none⟩) 1 1) ∧ w.heap.size ≤ g ∧ Var w' g #[.int .i64 s.x, .int .i64 s.y] 36) ∧ Below w.heap.size w w' := by
  have hb3 : (s.k == 3) = false := by simp [h3]
  have hb4 : (s.k == 4) = false := by simp [h4]
  clear h3 h4
  have HB := hid (below_alloc (Below.refl _ w) (.cells (cel s) 32))
  go_enter Tryd.func43, Tryd.ntmps43
  go_wp2_with fail
  (with_reducible refine (end_any s _).mono ?_); rintro e w1 ⟨rfl, hb⟩
  replace HB := hid (below_next HB.out hb)
  clear hb
  go_wp2_with fail
  go_ret
  exact ⟨⟨_, rfl, HB.out.size, Var.new w1 _ _ _ rfl⟩, below_alloc HB.out _⟩
theorem points_none (s : Sg) (w : World) (h4 : s.k = 4) : Calls Tryd.prog 43 #[seg s] w fun e w' => e = .returned (.slice none 0 0) ∧ Below w.heap.size w w' := by
  have hb3 : (s.k == 3) = false := by simp [h4]
  have hb4 : (s.k == 4) = true := by simp [h4]
  clear h4
  go_enter Tryd.func43, Tryd.ntmps43
  go_wp2_with fail
  go_ret
  exact ⟨rfl, below_alloc (Below.refl _ w) _⟩

theorem flatP_get : ∀ (ps : List (Int × Int)) (i : Nat) (p : Int × Int), ps[i]? = some p → (flatP ps)[i * 2]? = some (.int .i64 p.1) ∧ (flatP ps)[i * 2 + 1]? = some (.int .i64 p.2)
  | q :: r, 0, p, h => by
    obtain rfl : q = p := by simpa using h
    exact ⟨rfl, rfl⟩
  | q :: r, i + 1, p, h => by
    have h' := flatP_get r i p (by simpa using h)
    have e : flatP (q :: r) = [.int .i64 q.1, .int .i64 q.2] ++ flatP r := rfl
    rw [e, List.getElem?_append_right (by simp; omega), List.getElem?_append_right (by simp; omega)]
    simp only [List.length_cons, List.length_nil]
    rw [show (i + 1) * 2 - (0 + 1 + 1) = i * 2 by omega, show (i + 1) * 2 + 1 - (0 + 1 + 1) = i * 2 + 1 by omega]
    exact h'
theorem points_any (s : Sg) (w : World) : Calls Tryd.prog 43 #[seg s] w fun e w' => (∃ A g c, e = .returned (.slice A (pts s).length c) ∧ (pts s ≠ [] → A = some ⟨g, 0, none⟩ ∧ w.heap.size ≤ g ∧ Var w' g (flatP (pts s)).toArray 36)) ∧ Below w.heap.size w w' := by
  unfold pts
  by_cases h3 : s.k = 3
  · rw [if_pos h3]
    exact (points_curve s w h3).mono fun e w' ⟨⟨g, he, hg, hV⟩, hb⟩ => ⟨⟨some ⟨g, 0, none⟩, g, 2, he, fun _ => ⟨rfl, hg, hV⟩⟩, hb⟩
  · rw [if_neg h3]
    by_cases h4 : s.k = 4
    · rw [if_pos h4]
      exact (points_none s w h4).mono fun e w' ⟨he, hb⟩ => ⟨⟨none, 0, 0, he, fun h => absurd rfl h⟩, hb⟩
    · rw [if_neg h4]
      exact (points_one s w h3 h4).mono fun e w' ⟨⟨g, he, hg, hV⟩, hb⟩ => ⟨⟨some ⟨g, 0, none⟩, g, 1, he, fun _ => ⟨rfl, hg, hV⟩⟩, hb⟩

end Go.Proofs.YtbdpjdhnmllkiaaDoor
