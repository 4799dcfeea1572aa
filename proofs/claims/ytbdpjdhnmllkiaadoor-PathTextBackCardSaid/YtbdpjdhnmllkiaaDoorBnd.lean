/- What Bounds of package path returns. -/
import Derived.Test.YtbdpjdhnmllkiaaDoorSeq
import Derived.Test.YtbdpjdhnmllkiaaDoorEnds
namespace Go.Proofs.YtbdpjdhnmllkiaaDoor
open Go Go.RowKit
set_option linter.unusedVariables false
set_option linter.unusedSimpArgs false

abbrev pc (x y : Int) : Array Value := #[.int .i64 x, .int .i64 y]
section
variable {ρ : Operand → Value} {dst : Option Tmp} {ty : TypeId} {pos : String} {af : Array Edge} {x y : Operand} {w : World} {gd : Option (Nat × Bool)}
theorem run_allocPt : (execOp ρ { dst := dst, op := .alloc 36, type := ty, pos := pos, after := af, guard := gd }).run Tryd.prog w = .ok (.value (.pointer (some ⟨w.heap.size, 0, none⟩))) (w.alloc (.cells (pc 0 0) 36)) := by
  go_simp
theorem run_storePt {n : Nat} {a b : Int} {c0 c1 : Value} {t : TypeId} (hx : ρ x = .pointer (some ⟨n, 0, none⟩)) (hy : ρ y = pt a b) (hV : Var w n #[c0, c1] t) :
    (execOp ρ { dst := dst, op := .store 36 x y, type := ty, pos := pos, after := af, guard := gd }).run Tryd.prog w = .ok .skip ((w.setCell ⟨n, 0, none⟩ (.int .i64 a)).setCell ⟨n, 1, none⟩ (.int .i64 b)) := by
  obtain ⟨h0, h1, hf⟩ := hV.read2
  obtain ⟨g0, g1, gf⟩ := (hV.set (i := 0) (.int .i64 a)).read2
  go_simp
end
theorem Var.set2 {w : World} {n : Nat} {a b p q : Value} {ty : TypeId} (h : Var w n #[a, b] ty) : Var ((w.setCell ⟨n, 0, none⟩ p).setCell ⟨n, 1, none⟩ q) n #[p, q] ty := (h.set (i := 0) p).set (i := 1) q
theorem Var.far2 {w : World} {n m : Nat} {c : Array Value} {t : TypeId} (h : Var w n c t) (hn : n ≠ m) {p q : Value} : Var ((w.setCell ⟨m, 0, none⟩ p).setCell ⟨m, 1, none⟩ q) n c t := (h.far (p := ⟨m, 0, none⟩) hn p).far (p := ⟨m, 1, none⟩) hn q
theorem below_set2 {B : Nat} {w0 w : World} {b : Nat} {p q : Value} (h : Below B w0 w) (hb : B ≤ b) : Below B w0 ((w.setCell ⟨b, 0, none⟩ p).setCell ⟨b, 1, none⟩ q) :=
  (h.setCell (p := ⟨b, 0, none⟩) hb p).setCell (p := ⟨b, 1, none⟩) hb q

/-- What stands while the first point is taken twice. -/
structure JB (W : World) (g : Sg) (v0 : Value) (p1 v2 v3 : Value) (L : Nat → Bool) (f : Nat → Value) (w : World) : Prop where
  b : Below W.heap.size W w
  k0 : f 0 = v0
  k2 : f 2 = v2
  k3 : f 3 = v3
  a0 : L 0 = true → f 24 = v0
  a1 : L 1 = true → f 25 = p1
  a2 : L 2 = true → f 26 = seg g
  a3 : L 3 = true → f 27 = pt g.x g.y
  a4 : L 4 = true → f 28 = v0
  a5 : L 5 = true → f 29 = p1
  a6 : L 6 = true → f 30 = seg g
  a7 : L 7 = true → f 31 = pt g.x g.y
  a8 : L 8 = true → ∃ n c0 c1, f 6 = .pointer (some ⟨n, 0, none⟩) ∧ W.heap.size ≤ n ∧ Var w n #[c0, c1] 36
  a9 : L 9 = true → ∃ n c0 c1, f 7 = .pointer (some ⟨n, 0, none⟩) ∧ W.heap.size ≤ n ∧ Var w n #[c0, c1] 36
  ne : L 8 = true → L 9 = true → f 6 ≠ f 7
  a10 : L 10 = true → L 8 = true ∧ ∃ n, f 6 = .pointer (some ⟨n, 0, none⟩) ∧ Var w n (pc g.x g.y) 36
  a11 : L 11 = true → L 9 = true ∧ ∃ n, f 7 = .pointer (some ⟨n, 0, none⟩) ∧ Var w n (pc g.x g.y) 36
/-- New blocks change nothing of it. -/
theorem JB.next {W : World} {g : Sg} {v0 p1 v2 v3 : Value} {L : Nat → Bool} {f : Nat → Value} {w w' : World} (H : JB W g v0 p1 v2 v3 L f w) (hb : Below w.heap.size w w') : JB W g v0 p1 v2 v3 L f w' :=
  ⟨below_next H.b hb, H.k0, H.k2, H.k3, H.a0, H.a1, H.a2, H.a3, H.a4, H.a5, H.a6, H.a7,
    fun h => by obtain ⟨n, c0, c1, h1, h2, h3⟩ := H.a8 h; exact ⟨n, c0, c1, h1, h2, h3.next hb⟩,
    fun h => by obtain ⟨n, c0, c1, h1, h2, h3⟩ := H.a9 h; exact ⟨n, c0, c1, h1, h2, h3.next hb⟩, H.ne,
    fun h => by obtain ⟨h0, n, h1, h2⟩ := H.a10 h; exact ⟨h0, n, h1, h2.next hb⟩,
    fun h => by obtain ⟨h0, n, h1, h2⟩ := H.a11 h; exact ⟨h0, n, h1, h2.next hb⟩⟩

theorem ptr_ne {f g : Value} {n m : Nat} (hf : f = .pointer (some ⟨n, 0, none⟩)) (hg : g = .pointer (some ⟨m, 0, none⟩)) (h : f ≠ g) : n ≠ m := fun e => h (by rw [hf, hg, e])
theorem ptr_at {f : Value} {n m : Nat} (hf : f = .pointer (some ⟨n, 0, none⟩)) (hg : f = .pointer (some ⟨m, 0, none⟩)) : n = m := by
  rw [hf] at hg
  simpa using hg

-- STEPS
theorem retPPn {fn : Func} {p q u : Tmp} {R : Ending → World → Prop} {tmps : Array Value} {w : World} {B B' : Nat} {x y x' y' r : Int} (h : fn.results = #[.cell p 36, .cell q 36, .tmp u]) (hp : tmps.getD p undef = .pointer (some ⟨B, 0, none⟩)) (hq : tmps.getD q undef = .pointer (some ⟨B', 0, none⟩)) (hu : tmps.getD u undef = .int .i64 r)
    (hV : Var w B (pc x y) 36) (hV' : Var w B' (pc x' y') 36) (hR : R (.returned (.tuple #[pt x y, pt x' y', .int .i64 r])) w) : bodyPost Tryd.prog fn R .ret ⟨tmps, []⟩ w :=
  bodyPost_ret (v := .tuple #[pt x y, pt x' y', .int .i64 r]) (by
    show (results fn tmps).run _ w = _
    have e := loadPt hV
    have e' := loadPt hV'
    rw [Array.getD_eq_getD_getElem?] at hp hq hu
    simp [results, h, hp, hq, hu, asAddr, e, e']) rfl hR

set_option maxHeartbeats 6400000 in
set_option maxRecDepth 100000 in
theorem bounds_good (A : Option Addr) (ss : List Sg) (n c : Nat) (w : World) (hn : n = ss.length) (hs : Segs w A ss) (hok : chk ss = 0) (hpos : 0 < n) :
    Calls Tryd.prog 19 #[.slice A n c] w fun e w' => e = .returned (.tuple #[pt (bnds ss).a (bnds ss).b, pt (bnds ss).c (bnds ss).d, .int .i64 0]) ∧ Below w.heap.size w w' := by
  have hle := chk_le hok
  have HC := fun w1 (h : Segs w1 A ss) => hid (check_any A ss n c w1 hn fun _ => h)
  rw [hok] at HC
  obtain ⟨a, rfl, hal, hsa⟩ := hs.at_ (show 0 < ss.length by omega)
  rw [sg_at (show 0 < ss.length by omega)] at hsa
  have HS := hid hs
  have HA := hid hsa
  have HA0 := hid (show ∀ j, j < ss.length → SegAt w (a.add (j * 6)) (sg ss j) from fun j hj => (segs_sg hs hj).2)
  have HN := hid hn
  clear hs hok hsa hn
  obtain ⟨W0, hW0⟩ : ∃ W0, W0 = (w.alloc (.cells (pc 0 0) 36)).alloc (.cells (pc 0 0) 36) := ⟨_, rfl⟩
  have HR0 := hid (show Var W0 w.heap.size (pc 0 0) 36 by rw [hW0]; exact (Var.new w _ _ _ rfl).alloc _)
  have HR1 := hid (show Var W0 (w.heap.size + 1) (pc 0 0) 36 by rw [hW0]; exact Var.new (w.alloc _) _ _ _ (by simp))
  have HB0 := hid (show Below w.heap.size w W0 by rw [hW0]; exact below_alloc (below_alloc (Below.refl _ w) _) _)
  go_enter Tryd.func19, Tryd.ntmps19
  go_wp2_with fail
  rw [← hW0]
  clear hW0
  (with_reducible refine (HC _ (HS.out.next HB0.out)).out.mono ?_); rintro e W ⟨rfl, hb⟩
  replace HB0 := hid (below_next HB0.out hb)
  replace HR0 := hid (HR0.out.next hb)
  replace HR1 := hid (HR1.out.next hb)
  clear hb HC
  go_upto_region 6 with fail
  rename_i Kn hKn
  have ha : a.block < W.heap.size := Nat.lt_of_lt_of_le hal HB0.out.size
  have LS := fun w1 (h : Below W.heap.size W w1) => (HA.out.below HB0.out (by rw [add_block]; exact hal)).below h (by rw [add_block]; exact ha)
  have hv0 : (.slice (some a) n c : Value) = .slice (some a) n c := rfl
  have hp1 : (.pointer (some (a.add ((0 : Int).toNat * 6))) : Value) = .pointer (some (a.add (0 * 6))) := rfl
  generalize hg : sg ss 0 = g at LS
  generalize hvv : (.slice (some a) n c : Value) = v0 at hv0
  generalize hpp : (.pointer (some (a.add ((0 : Int).toNat * 6))) : Value) = p1 at hp1
  have hp1' : p1 = .pointer (some (a.add ((0 : Int).toNat * 6))) := hpp.symm
  have hv0' : v0 = .slice (some a) n c := hvv.symm
  refine Iv.wp_region_inv (n := 71) (JB W g v0 p1 (.pointer (some ⟨w.heap.size, 0, none⟩)) (.pointer (some ⟨w.heap.size + 1, 0, none⟩))) _ (by kernel_rfl) (by kernel_rfl) (Is.start _ rfl) ?_ ?_ ?_
  · exact ⟨(Below.refl _ W).drew, rfl, rfl, rfl, fun h => absurd h (by decide), fun h => absurd h (by decide), fun h => absurd h (by decide), fun h => absurd h (by decide), fun h => absurd h (by decide), fun h => absurd h (by decide), fun h => absurd h (by decide), fun h => absurd h (by decide), fun h => absurd h (by decide), fun h => absurd h (by decide), fun h => absurd h (by decide), fun h => absurd h (by decide), fun h => absurd h (by decide)⟩
  · refine ⟨⟨by intro d hd; cases hd <;> decide, fun L f w1 hL hdep H => ⟨fun hw => ?_, fun hw => by cases hw⟩⟩, ⟨by intro d hd; cases hd <;> decide, fun L f w1 hL hdep H => ⟨fun hw => ?_, fun hw => by cases hw⟩⟩, ⟨by intro d hd; cases hd <;> decide, fun L f w1 hL hdep H => ⟨fun hw => ?_, fun hw => by cases hw⟩⟩, ⟨by intro d hd; cases hd <;> decide, fun L f w1 hL hdep H => ⟨fun hw => ?_, fun hw => by cases hw⟩⟩, ⟨by intro d hd; cases hd <;> decide, fun L f w1 hL hdep H => ⟨fun hw => ?_, fun hw => by cases hw⟩⟩, ⟨by intro d hd; cases hd <;> decide, fun L f w1 hL hdep H => ⟨fun hw => ?_, fun hw => by cases hw⟩⟩, ⟨by intro d hd; cases hd <;> decide, fun L f w1 hL hdep H => ⟨fun hw => ?_, fun hw => by cases hw⟩⟩, ⟨by intro d hd; cases hd <;> decide, fun L f w1 hL hdep H => ⟨fun hw => ?_, fun hw => by cases hw⟩⟩, ⟨by intro d hd; cases hd <;> decide, fun L f w1 hL hdep H => ⟨fun hw => ?_, fun hw => by cases hw⟩⟩, ⟨by intro d hd; cases hd <;> decide, fun L f w1 hL hdep H => ⟨fun hw => ?_, fun hw => by cases hw⟩⟩, ⟨by intro d hd; cases hd <;> decide, fun L f w1 hL hdep H => ⟨fun hw => ?_, fun hw => by cases hw⟩⟩, ⟨by intro d hd; cases hd <;> decide, fun L f w1 hL hdep H => ⟨fun hw => ?_, fun hw => by cases hw⟩⟩, trivial⟩
    · refine (show JB W g v0 p1 (.pointer (some ⟨w.heap.size, 0, none⟩)) (.pointer (some ⟨w.heap.size + 1, 0, none⟩)) (Iv.mark L 0) (upd f 24 (f 0)) w1 from ?_)
      exact ⟨H.b, H.k0, H.k2, H.k3, fun _ => H.k0, H.a1, H.a2, H.a3, H.a4, H.a5, H.a6, H.a7, H.a8, H.a9, H.ne, H.a10, H.a11⟩
    · have d0 := hdep ⟨0, .data⟩ (by simp) rfl
      rw [run_index (a := a) (j := 0) (n := n) (c := c) ((H.a0 d0).trans hv0') rfl (by omega) (by omega)]
      exact ⟨H.b, H.k0, H.k2, H.k3, H.a0, fun _ => hp1'.symm, H.a2, H.a3, H.a4, H.a5, H.a6, H.a7, H.a8, H.a9, H.ne, H.a10, H.a11⟩
    · have d1 := hdep ⟨1, .data⟩ (by simp) rfl
      rw [run_loadSeg (s := g) ((H.a1 d1).trans hp1) (LS w1 H.b)]
      exact ⟨H.b, H.k0, H.k2, H.k3, H.a0, H.a1, fun _ => rfl, H.a3, H.a4, H.a5, H.a6, H.a7, H.a8, H.a9, H.ne, H.a10, H.a11⟩
    · have d2 := hdep ⟨2, .data⟩ (by simp) rfl
      rw [run_call1 rfl enters_end]
      refine (show Calls _ _ #[f 26] _ _ from ?_)
      rw [H.a2 d2]
      refine (end_any g w1).mono fun e w2 ⟨he, hb⟩ => ⟨_, he, ?_⟩
      have H := H.next hb
      exact ⟨H.b, H.k0, H.k2, H.k3, H.a0, H.a1, H.a2, fun _ => rfl, H.a4, H.a5, H.a6, H.a7, H.a8, H.a9, H.ne, H.a10, H.a11⟩
    · refine (show JB W g v0 p1 (.pointer (some ⟨w.heap.size, 0, none⟩)) (.pointer (some ⟨w.heap.size + 1, 0, none⟩)) (Iv.mark L 4) (upd f 28 (f 0)) w1 from ?_)
      exact ⟨H.b, H.k0, H.k2, H.k3, H.a0, H.a1, H.a2, H.a3, fun _ => H.k0, H.a5, H.a6, H.a7, H.a8, H.a9, H.ne, H.a10, H.a11⟩
    · have d0 := hdep ⟨4, .data⟩ (by simp) rfl
      rw [run_index (a := a) (j := 0) (n := n) (c := c) ((H.a4 d0).trans hv0') rfl (by omega) (by omega)]
      exact ⟨H.b, H.k0, H.k2, H.k3, H.a0, H.a1, H.a2, H.a3, H.a4, fun _ => hp1'.symm, H.a6, H.a7, H.a8, H.a9, H.ne, H.a10, H.a11⟩
    · have d1 := hdep ⟨5, .data⟩ (by simp) rfl
      rw [run_loadSeg (s := g) ((H.a5 d1).trans hp1) (LS w1 H.b)]
      exact ⟨H.b, H.k0, H.k2, H.k3, H.a0, H.a1, H.a2, H.a3, H.a4, H.a5, fun _ => rfl, H.a7, H.a8, H.a9, H.ne, H.a10, H.a11⟩
    · have d2 := hdep ⟨6, .data⟩ (by simp) rfl
      rw [run_call1 rfl enters_end]
      refine (show Calls _ _ #[f 30] _ _ from ?_)
      rw [H.a6 d2]
      refine (end_any g w1).mono fun e w2 ⟨he, hb⟩ => ⟨_, he, ?_⟩
      have H := H.next hb
      exact ⟨H.b, H.k0, H.k2, H.k3, H.a0, H.a1, H.a2, H.a3, H.a4, H.a5, H.a6, fun _ => rfl, H.a8, H.a9, H.ne, H.a10, H.a11⟩
    · have H0 := H
      rw [run_allocPt]
      have hb := below_alloc (Below.refl _ w1) (.cells (pc 0 0) 36)
      have H := H.next hb
      exact ⟨H.b, H.k0, H.k2, H.k3, H.a0, H.a1, H.a2, H.a3, H.a4, H.a5, H.a6, H.a7, fun _ => ⟨w1.heap.size, _, _, rfl, H0.b.size, Var.new w1 _ _ _ rfl⟩, H.a9, fun _ h9 => by obtain ⟨n, c0, c1, h1, h2, h3⟩ := H0.a9 h9; intro e; have e1 := ptr_at (show upd f 6 (.pointer (some ⟨w1.heap.size, 0, none⟩)) 6 = _ from rfl) (e.trans h1); have := h3.lt; omega, fun h => absurd (H.a10 h).1 (by rw [hL]; decide), H.a11⟩
    · have H0 := H
      rw [run_allocPt]
      have hb := below_alloc (Below.refl _ w1) (.cells (pc 0 0) 36)
      have H := H.next hb
      exact ⟨H.b, H.k0, H.k2, H.k3, H.a0, H.a1, H.a2, H.a3, H.a4, H.a5, H.a6, H.a7, H.a8, fun _ => ⟨w1.heap.size, _, _, rfl, H0.b.size, Var.new w1 _ _ _ rfl⟩, fun h8 _ => by obtain ⟨n, c0, c1, h1, h2, h3⟩ := H0.a8 h8; intro e; have e1 := ptr_at (show upd f 7 (.pointer (some ⟨w1.heap.size, 0, none⟩)) 7 = _ from rfl) (e.symm.trans h1); have := h3.lt; omega, H.a10, fun h => absurd (H.a11 h).1 (by rw [hL]; decide)⟩
    · have dm := hdep ⟨8, .data⟩ (by simp) rfl
      have dv := hdep ⟨3, .data⟩ (by simp) rfl
      obtain ⟨m, c0, c1, h1, h2, h3⟩ := H.a8 dm
      rw [run_storePt h1 (H.a3 dv) h3]
      have far : ∀ n c, Var w1 n c 36 → n ≠ m → Var ((w1.setCell ⟨m, 0, none⟩ (.int .i64 g.x)).setCell ⟨m, 1, none⟩ (.int .i64 g.y)) n c 36 := fun n c h hn => h.far2 hn
      exact ⟨below_set2 H.b h2, H.k0, H.k2, H.k3, H.a0, H.a1, H.a2, H.a3, H.a4, H.a5, H.a6, H.a7, fun _ => ⟨m, _, _, h1, h2, h3.set2⟩, fun h => by obtain ⟨n, e0, e1, k1, k2, k3⟩ := H.a9 h; exact ⟨n, e0, e1, k1, k2, far n _ k3 (ptr_ne k1 h1 (fun e => H.ne dm h e.symm))⟩, H.ne, fun _ => ⟨dm, m, h1, h3.set2⟩, fun h => by obtain ⟨k0, n, k1, k3⟩ := H.a11 h; exact ⟨k0, n, k1, far n _ k3 (ptr_ne k1 h1 (fun e => H.ne dm k0 e.symm))⟩⟩
    · have dm := hdep ⟨9, .data⟩ (by simp) rfl
      have dv := hdep ⟨7, .data⟩ (by simp) rfl
      obtain ⟨m, c0, c1, h1, h2, h3⟩ := H.a9 dm
      rw [run_storePt h1 (H.a7 dv) h3]
      have far : ∀ n c, Var w1 n c 36 → n ≠ m → Var ((w1.setCell ⟨m, 0, none⟩ (.int .i64 g.x)).setCell ⟨m, 1, none⟩ (.int .i64 g.y)) n c 36 := fun n c h hn => h.far2 hn
      exact ⟨below_set2 H.b h2, H.k0, H.k2, H.k3, H.a0, H.a1, H.a2, H.a3, H.a4, H.a5, H.a6, H.a7, fun h => by obtain ⟨n, e0, e1, k1, k2, k3⟩ := H.a8 h; exact ⟨n, e0, e1, k1, k2, far n _ k3 (ptr_ne k1 h1 (H.ne h dm))⟩, fun _ => ⟨m, _, _, h1, h2, h3.set2⟩, H.ne, fun h => by obtain ⟨k0, n, k1, k3⟩ := H.a10 h; exact ⟨k0, n, k1, far n _ k3 (ptr_ne k1 h1 (H.ne k0 dm))⟩, fun _ => ⟨dm, m, h1, h3.set2⟩⟩
  · intro L f act w' hall H ha'
    obtain ⟨-, m, e1, e2⟩ := H.a10 (hall 10 (by decide))
    obtain ⟨-, k, e3, e4⟩ := H.a11 (hall 11 (by decide))
    obtain ⟨m', _, _, q1, q2, _⟩ := H.a8 (hall 8 (by decide))
    obtain ⟨k', _, _, q3, q4, _⟩ := H.a9 (hall 9 (by decide))
    have i1 := ptr_at e1 q1
    have i2 := ptr_at e3 q3
    have hmk := ptr_ne e1 e3 (H.ne (hall 8 (by decide)) (hall 9 (by decide)))
    have hm : W.heap.size ≤ m := by omega
    have hk : W.heap.size ≤ k := by omega
    have HMK := hid hmk
    refine hKn _ _ ?_
    have hw := ha'.whole
    rw [show ((List.range 71).map f).toArray = #[f 0, f 1, f 2, f 3, f 4, f 5, f 6, f 7, f 8, f 9, f 10, f 11, f 12, f 13, f 14, f 15, f 16, f 17, f 18, f 19, f 20, f 21, f 22, f 23, f 24, f 25, f 26, f 27, f 28, f 29, f 30, f 31, f 32, f 33, f 34, f 35, f 36, f 37, f 38, f 39, f 40, f 41, f 42, f 43, f 44, f 45, f 46, f 47, f 48, f 49, f 50, f 51, f 52, f 53, f 54, f 55, f 56, f 57, f 58, f 59, f 60, f 61, f 62, f 63, f 64, f 65, f 66, f 67, f 68, f 69, f 70] from rfl, H.k0, H.k2, H.k3, e1, e3, ← hvv] at hw
    rw [hw]
    have HM := hid e2
    have HK := hid e4
    have HB := hid H.b
    clear hw ha' H e1 e2 e3 e4 q1 q2 q3 q4 i1 i2 hall hKn LS hmk hvv hpp hv0 hv0' hp1 hp1'
    go_wp2_with fail
    go_loopw [34] (fun s34 wo => ∃ (j : Nat) (K : Bx), j ≤ n ∧ s34 = .int .i64 j ∧ Hid (bnds ss = K.all ((ss.drop j).flatMap pts)) ∧ Hid (Var wo m (pc K.a K.b) 36) ∧ Hid (Var wo k (pc K.c K.d) 36) ∧ Hid (Below W.heap.size W wo)) (fun s34 _ => n - (intOf s34).toNat)
    case atStart => exact ⟨0, ⟨g.x, g.y, g.x, g.y⟩, Nat.zero_le _, rfl, hid (by rw [← hg]; rfl), HM, HK, HB⟩
    case round =>
      obtain ⟨wo, rfl⟩ : ∃ wo, wo = wr := ⟨_, rfl⟩
      obtain ⟨j, K, hj, rfl, HE, HMJ, HKJ, HBJ⟩ := hrel
      by_cases hlt : j < n
      · have hjl : j < ss.length := by rw [← HN.out]; exact hlt
        have HSJ := hid ((HA0.out j hjl).below (HB0.out.trans (HBJ.out.mono HB0.out.size)) (by rw [add_block]; exact hal))
        have HE1 := hid (show bnds ss = (K.all (pts (sg ss j))).all ((ss.drop (j + 1)).flatMap pts) by
          rw [HE.out, List.drop_eq_getElem_cons hjl, List.flatMap_cons, sg_at hjl]
          unfold Bx.all
          rw [List.foldl_append])
        clear HE
        generalize sg ss j = s at HSJ HE1
        obtain ⟨c0, c1, c2, c3, c4, c5⟩ := HSJ.out
        have HV := hid (Var.new wo (cel s) 32 _ rfl)
        have HMV := hid (HMJ.out.alloc (.cells (cel s) 32))
        have HKV := hid (HKJ.out.alloc (.cells (cel s) 32))
        have HBV := hid (HBJ.out.alloc HBJ.out.size (.cells (cel s) 32))
        have hml := HMJ.out.lt
        have hkl := HKJ.out.lt
        go_wp2_with fail
        (with_reducible refine (points_any s _).mono ?_); rintro e w2 ⟨⟨A2, q, c2', rfl, hq⟩, hb⟩
        have HP := hid (show pts s ≠ [] → A2 = some ⟨q, 0, none⟩ ∧ q ≠ m ∧ q ≠ k ∧ W.heap.size ≤ q ∧ Var w2 q (flatP (pts s)).toArray 36 from fun h => by
          obtain ⟨h1, h2, h3⟩ := hq h
          have := HBJ.out.size
          simp at h2
          exact ⟨h1, by omega, by omega, by omega, h3⟩)
        have HM2 := hid (HMV.out.next hb)
        have HK2 := hid (HKV.out.next hb)
        have HB2 := hid (HBV.out.trans (hb.mono HBV.out.size))
        clear hb hq c0 c1 c2 c3 c4 c5 HV HMV HKV HBV HMJ HKJ HBJ
        have hpl : (pts s).length ≤ 2 := by unfold pts; split; simp; split <;> simp
        go_wp2_with fail
        go_loopw [41] (fun s41 wr => ∃ (i : Nat) (K2 : Bx), i ≤ (pts s).length ∧ s41 = .int .i64 i ∧ Hid (K.all (pts s) = K2.all ((pts s).drop i)) ∧ Hid (Var wr m (pc K2.a K2.b) 36) ∧ Hid (Var wr k (pc K2.c K2.d) 36) ∧ Hid (Below W.heap.size W wr) ∧ Hid (pts s ≠ [] → Var wr q (flatP (pts s)).toArray 36)) (fun s41 _ => (pts s).length - (intOf s41).toNat)
        case atStart => exact ⟨0, K, Nat.zero_le _, rfl, hid rfl, HM2, HK2, HB2, hid (fun h => (HP.out h).2.2.2.2)⟩
        case round =>
          obtain ⟨i, K2, hi, rfl, HEI, HMI, HKI, HBI, HQI⟩ := hrel
          by_cases hlt2 : i < (pts s).length
          · have hne : pts s ≠ [] := fun e => by rw [e] at hlt2; simp at hlt2
            obtain ⟨rfl, hqm, hqk, hqW, -⟩ := HP.out hne
            have HQV := hid (HQI.out hne)
            obtain ⟨z0, z1⟩ := flatP_get (pts s) i (pts s)[i] (List.getElem?_eq_getElem hlt2)
            have q0 : wr.cell? ⟨q, i * 2, none⟩ = some (.int .i64 (pts s)[i].1) := by rw [HQV.out.cell]; simpa using z0
            have q1 : wr.cell? ⟨q, i * 2 + 1, none⟩ = some (.int .i64 (pts s)[i].2) := by rw [HQV.out.cell]; simpa using z1
            have HE2 := hid (show K.all (pts s) = (K2.add (pts s)[i]).all ((pts s).drop (i + 1)) by rw [HEI.out, List.drop_eq_getElem_cons hlt2]; rfl)
            clear z0 z1 hne HEI
            generalize (pts s)[i] = p at q0 q1 HE2
            obtain ⟨px, py⟩ := p
            simp only at q0 q1
            have hml := HMI.out.lt
            have hkl := HKI.out.lt
            have hql := HQV.out.lt
            have HMA := hid (HMI.out.alloc (.cells (pc px py) 36))
            have HKA := hid (HKI.out.alloc (.cells (pc px py) 36))
            have HQA := hid (HQV.out.alloc (.cells (pc px py) 36))
            have HNA := hid (Var.new wr (pc px py) 36 _ rfl)
            have HBA := hid (HBI.out.alloc HBI.out.size (.cells (pc px py) 36))
            obtain ⟨x0, x1, xf⟩ := HMA.out.read2
            obtain ⟨y0, y1, yf⟩ := HKA.out.read2
            obtain ⟨z0, z1, zf⟩ := HNA.out.read2
            go_upto_region 13 with fail
            rename_i Kn hKn
            refine wp_region_lit ?_
            refine sq_start (n := 71) rfl fun a0m hs0m => ?_
            have ha0m := (((((((((((((((((((((((((((((((((((((((((((((hs0m.pin 0 (v := .slice (some a) n c) rfl).pin 1 (v := f 1) rfl).pin 2 (v := .pointer (some ⟨w.heap.size, 0, none⟩)) rfl).pin 3 (v := .pointer (some ⟨w.heap.size + 1, 0, none⟩)) rfl).pin 4 (v := f 4) rfl).pin 5 (v := f 5) rfl).pin 6 (v := .pointer (some ⟨m, 0, none⟩)) rfl).pin 7 (v := .pointer (some ⟨k, 0, none⟩)) rfl).pin 8 (v := f 8) rfl).pin 9 (v := .pointer (some ⟨wo.heap.size, 0, none⟩)) rfl).pin 10 (v := f 10) rfl).pin 11 (v := .pointer (some ⟨wr.heap.size, 0, none⟩)) rfl).pin 12 (v := f 12) rfl).pin 13 (v := f 13) rfl).pin 14 (v := f 14) rfl).pin 15 (v := f 15) rfl).pin 16 (v := f 16) rfl).pin 17 (v := f 17) rfl).pin 18 (v := f 18) rfl).pin 19 (v := f 19) rfl).pin 20 (v := f 20) rfl).pin 21 (v := f 21) rfl).pin 22 (v := f 22) rfl).pin 23 (v := f 23) rfl).pin 24 (v := f 24) rfl).pin 25 (v := f 25) rfl).pin 26 (v := f 26) rfl).pin 27 (v := f 27) rfl).pin 28 (v := f 28) rfl).pin 29 (v := f 29) rfl).pin 30 (v := f 30) rfl).pin 31 (v := f 31) rfl).pin 32 (v := .slice (some a) n c) rfl).pin 33 (v := .int .i64 n) rfl).pin 34 (v := .int .i64 j) rfl).pin 35 (v := .bool true) rfl).pin 36 (v := .pointer (some (a.add (j * 6)))) rfl).pin 37 (v := seg s) rfl).pin 38 (v := seg s) rfl).pin 39 (v := .slice (some ⟨q, 0, none⟩) (pts s).length c2') rfl).pin 40 (v := .int .i64 (pts s).length) rfl).pin 41 (v := .int .i64 i) rfl).pin 68 (v := u68) rfl).pin 69 (v := f 69) rfl).pin 70 (v := f 70) rfl)
            clear hs0m
            generalize (fun i => Array.getD _ i undef) = g0m at ha0m
            refine sq_val ha0m rfl (run_fldP0 rfl) fun a1m ha1m => ?_
            refine sq_val ha1m rfl (run_load_int rfl x0) fun a2m ha2m => ?_
            refine sq_val ha2m rfl (run_fldP0 rfl) fun a3m ha3m => ?_
            refine sq_val ha3m rfl (run_load_int rfl z0) fun a4m ha4m => ?_
            refine sq_val ha4m rfl (run_min rfl rfl) fun a5m ha5m => ?_
            refine sq_val ha5m rfl (run_fldP1 rfl) fun a6m ha6m => ?_
            refine sq_val ha6m rfl (run_load_int rfl x1) fun a7m ha7m => ?_
            refine sq_val ha7m rfl (run_fldP1 rfl) fun a8m ha8m => ?_
            refine sq_val ha8m rfl (run_load_int rfl z1) fun a9m ha9m => ?_
            refine sq_val ha9m rfl (run_min rfl rfl) fun a10m ha10m => ?_
            refine sq_val ha10m rfl (run_buildP rfl rfl) fun a11m ha11m => ?_
            refine sq_skip ha11m (run_storePt rfl rfl HMA.out) fun a12m ha12m => ?_
            refine wpList_nil ?_
            refine hKn _ _ ?_
            obtain ⟨g9, hg9, k0, k1, k2, k3, k4, k5, k6, k7, k8, k9, k10, k11, k12, k13, k14, k15, k16, k17, k18, k19, k20, k21, k22, k23, k24, k25, k26, k27, k28, k29, k30, k31, k32, k33, k34, k35, k36, k37, k38, k39, k40, k41, k68, k69, k70⟩ : ∃ g9, Is a12m 71 g9 ∧ g9 0 = .slice (some a) n c ∧ g9 1 = f 1 ∧ g9 2 = .pointer (some ⟨w.heap.size, 0, none⟩) ∧ g9 3 = .pointer (some ⟨w.heap.size + 1, 0, none⟩) ∧ g9 4 = f 4 ∧ g9 5 = f 5 ∧ g9 6 = .pointer (some ⟨m, 0, none⟩) ∧ g9 7 = .pointer (some ⟨k, 0, none⟩) ∧ g9 8 = f 8 ∧ g9 9 = .pointer (some ⟨wo.heap.size, 0, none⟩) ∧ g9 10 = f 10 ∧ g9 11 = .pointer (some ⟨wr.heap.size, 0, none⟩) ∧ g9 12 = f 12 ∧ g9 13 = f 13 ∧ g9 14 = f 14 ∧ g9 15 = f 15 ∧ g9 16 = f 16 ∧ g9 17 = f 17 ∧ g9 18 = f 18 ∧ g9 19 = f 19 ∧ g9 20 = f 20 ∧ g9 21 = f 21 ∧ g9 22 = f 22 ∧ g9 23 = f 23 ∧ g9 24 = f 24 ∧ g9 25 = f 25 ∧ g9 26 = f 26 ∧ g9 27 = f 27 ∧ g9 28 = f 28 ∧ g9 29 = f 29 ∧ g9 30 = f 30 ∧ g9 31 = f 31 ∧ g9 32 = .slice (some a) n c ∧ g9 33 = .int .i64 n ∧ g9 34 = .int .i64 j ∧ g9 35 = .bool true ∧ g9 36 = .pointer (some (a.add (j * 6))) ∧ g9 37 = seg s ∧ g9 38 = seg s ∧ g9 39 = .slice (some ⟨q, 0, none⟩) (pts s).length c2' ∧ g9 40 = .int .i64 (pts s).length ∧ g9 41 = .int .i64 i ∧ g9 68 = u68 ∧ g9 69 = f 69 ∧ g9 70 = f 70 := ⟨_, ha12m, rfl, rfl, rfl, rfl, rfl, rfl, rfl, rfl, rfl, rfl, rfl, rfl, rfl, rfl, rfl, rfl, rfl, rfl, rfl, rfl, rfl, rfl, rfl, rfl, rfl, rfl, rfl, rfl, rfl, rfl, rfl, rfl, rfl, rfl, rfl, rfl, rfl, rfl, rfl, rfl, rfl, rfl, rfl, rfl, rfl⟩
            have hw := hg9.whole
            rw [show ((List.range 71).map g9).toArray = #[g9 0, g9 1, g9 2, g9 3, g9 4, g9 5, g9 6, g9 7, g9 8, g9 9, g9 10, g9 11, g9 12, g9 13, g9 14, g9 15, g9 16, g9 17, g9 18, g9 19, g9 20, g9 21, g9 22, g9 23, g9 24, g9 25, g9 26, g9 27, g9 28, g9 29, g9 30, g9 31, g9 32, g9 33, g9 34, g9 35, g9 36, g9 37, g9 38, g9 39, g9 40, g9 41, g9 42, g9 43, g9 44, g9 45, g9 46, g9 47, g9 48, g9 49, g9 50, g9 51, g9 52, g9 53, g9 54, g9 55, g9 56, g9 57, g9 58, g9 59, g9 60, g9 61, g9 62, g9 63, g9 64, g9 65, g9 66, g9 67, g9 68, g9 69, g9 70] from rfl, k0, k1, k2, k3, k4, k5, k6, k7, k8, k9, k10, k11, k12, k13, k14, k15, k16, k17, k18, k19, k20, k21, k22, k23, k24, k25, k26, k27, k28, k29, k30, k31, k32, k33, k34, k35, k36, k37, k38, k39, k40, k41, k68, k69, k70] at hw
            rw [hw]
            clear hw hg9 k0 k1 k2 k3 k4 k5 k6 k7 k8 k9 k10 k11 k12 k13 k14 k15 k16 k17 k18 k19 k20 k21 k22 k23 k24 k25 k26 k27 k28 k29 k30 k31 k32 k33 k34 k35 k36 k37 k38 k39 k40 k41 k68 k69 k70 ha0m ha1m ha2m ha3m ha4m ha5m ha6m ha7m ha8m ha9m ha10m ha11m ha12m
            have HM3 := hid (HMA.out.set2 (p := .int .i64 (min K2.a px)) (q := .int .i64 (min K2.b py)))
            have HK3 := hid (HKA.out.far2 (m := m) (Ne.symm HMK.out) (p := .int .i64 (min K2.a px)) (q := .int .i64 (min K2.b py)))
            have HN3 := hid (HNA.out.far2 (m := m) (by omega) (p := .int .i64 (min K2.a px)) (q := .int .i64 (min K2.b py)))
            have HQ3 := hid (HQA.out.far2 (m := m) hqm (p := .int .i64 (min K2.a px)) (q := .int .i64 (min K2.b py)))
            have HB3 := hid (below_set2 HBA.out hm (p := .int .i64 (min K2.a px)) (q := .int .i64 (min K2.b py)))
            clear x0 x1 xf y0 y1 yf z0 z1 zf HMA HKA HNA HQA HBA hKn
            generalize ((wr.alloc _).setCell _ _).setCell _ _ = W3 at HM3 HK3 HN3 HQ3 HB3 ⊢
            obtain ⟨y0, y1, yf⟩ := HK3.out.read2
            obtain ⟨z0, z1, zf⟩ := HN3.out.read2
            go_upto_region 14 with fail
            rename_i Kn hKn
            refine wp_region_lit ?_
            refine sq_start (n := 71) rfl fun a0x hs0x => ?_
            have ha0x := (((((((((((((((((((((((((((((((((((((((((((((hs0x.pin 0 (v := .slice (some a) n c) rfl).pin 1 (v := f 1) rfl).pin 2 (v := .pointer (some ⟨w.heap.size, 0, none⟩)) rfl).pin 3 (v := .pointer (some ⟨w.heap.size + 1, 0, none⟩)) rfl).pin 4 (v := f 4) rfl).pin 5 (v := f 5) rfl).pin 6 (v := .pointer (some ⟨m, 0, none⟩)) rfl).pin 7 (v := .pointer (some ⟨k, 0, none⟩)) rfl).pin 8 (v := f 8) rfl).pin 9 (v := .pointer (some ⟨wo.heap.size, 0, none⟩)) rfl).pin 10 (v := f 10) rfl).pin 11 (v := .pointer (some ⟨wr.heap.size, 0, none⟩)) rfl).pin 12 (v := f 12) rfl).pin 13 (v := f 13) rfl).pin 14 (v := f 14) rfl).pin 15 (v := f 15) rfl).pin 16 (v := f 16) rfl).pin 17 (v := f 17) rfl).pin 18 (v := f 18) rfl).pin 19 (v := f 19) rfl).pin 20 (v := f 20) rfl).pin 21 (v := f 21) rfl).pin 22 (v := f 22) rfl).pin 23 (v := f 23) rfl).pin 24 (v := f 24) rfl).pin 25 (v := f 25) rfl).pin 26 (v := f 26) rfl).pin 27 (v := f 27) rfl).pin 28 (v := f 28) rfl).pin 29 (v := f 29) rfl).pin 30 (v := f 30) rfl).pin 31 (v := f 31) rfl).pin 32 (v := .slice (some a) n c) rfl).pin 33 (v := .int .i64 n) rfl).pin 34 (v := .int .i64 j) rfl).pin 35 (v := .bool true) rfl).pin 36 (v := .pointer (some (a.add (j * 6)))) rfl).pin 37 (v := seg s) rfl).pin 38 (v := seg s) rfl).pin 39 (v := .slice (some ⟨q, 0, none⟩) (pts s).length c2') rfl).pin 40 (v := .int .i64 (pts s).length) rfl).pin 41 (v := .int .i64 i) rfl).pin 68 (v := u68) rfl).pin 69 (v := f 69) rfl).pin 70 (v := f 70) rfl)
            clear hs0x
            generalize (fun i => Array.getD _ i undef) = g0x at ha0x
            refine sq_val ha0x rfl (run_fldP0 rfl) fun a1x ha1x => ?_
            refine sq_val ha1x rfl (run_load_int rfl y0) fun a2x ha2x => ?_
            refine sq_val ha2x rfl (run_fldP0 rfl) fun a3x ha3x => ?_
            refine sq_val ha3x rfl (run_load_int rfl z0) fun a4x ha4x => ?_
            refine sq_val ha4x rfl (run_max rfl rfl) fun a5x ha5x => ?_
            refine sq_val ha5x rfl (run_fldP1 rfl) fun a6x ha6x => ?_
            refine sq_val ha6x rfl (run_load_int rfl y1) fun a7x ha7x => ?_
            refine sq_val ha7x rfl (run_fldP1 rfl) fun a8x ha8x => ?_
            refine sq_val ha8x rfl (run_load_int rfl z1) fun a9x ha9x => ?_
            refine sq_val ha9x rfl (run_max rfl rfl) fun a10x ha10x => ?_
            refine sq_val ha10x rfl (run_buildP rfl rfl) fun a11x ha11x => ?_
            refine sq_skip ha11x (run_storePt rfl rfl HK3.out) fun a12x ha12x => ?_
            refine wpList_nil ?_
            refine hKn _ _ ?_
            obtain ⟨g9, hg9, k0, k1, k2, k3, k4, k5, k6, k7, k8, k9, k10, k11, k12, k13, k14, k15, k16, k17, k18, k19, k20, k21, k22, k23, k24, k25, k26, k27, k28, k29, k30, k31, k32, k33, k34, k35, k36, k37, k38, k39, k40, k41, k68, k69, k70⟩ : ∃ g9, Is a12x 71 g9 ∧ g9 0 = .slice (some a) n c ∧ g9 1 = f 1 ∧ g9 2 = .pointer (some ⟨w.heap.size, 0, none⟩) ∧ g9 3 = .pointer (some ⟨w.heap.size + 1, 0, none⟩) ∧ g9 4 = f 4 ∧ g9 5 = f 5 ∧ g9 6 = .pointer (some ⟨m, 0, none⟩) ∧ g9 7 = .pointer (some ⟨k, 0, none⟩) ∧ g9 8 = f 8 ∧ g9 9 = .pointer (some ⟨wo.heap.size, 0, none⟩) ∧ g9 10 = f 10 ∧ g9 11 = .pointer (some ⟨wr.heap.size, 0, none⟩) ∧ g9 12 = f 12 ∧ g9 13 = f 13 ∧ g9 14 = f 14 ∧ g9 15 = f 15 ∧ g9 16 = f 16 ∧ g9 17 = f 17 ∧ g9 18 = f 18 ∧ g9 19 = f 19 ∧ g9 20 = f 20 ∧ g9 21 = f 21 ∧ g9 22 = f 22 ∧ g9 23 = f 23 ∧ g9 24 = f 24 ∧ g9 25 = f 25 ∧ g9 26 = f 26 ∧ g9 27 = f 27 ∧ g9 28 = f 28 ∧ g9 29 = f 29 ∧ g9 30 = f 30 ∧ g9 31 = f 31 ∧ g9 32 = .slice (some a) n c ∧ g9 33 = .int .i64 n ∧ g9 34 = .int .i64 j ∧ g9 35 = .bool true ∧ g9 36 = .pointer (some (a.add (j * 6))) ∧ g9 37 = seg s ∧ g9 38 = seg s ∧ g9 39 = .slice (some ⟨q, 0, none⟩) (pts s).length c2' ∧ g9 40 = .int .i64 (pts s).length ∧ g9 41 = .int .i64 i ∧ g9 68 = u68 ∧ g9 69 = f 69 ∧ g9 70 = f 70 := ⟨_, ha12x, rfl, rfl, rfl, rfl, rfl, rfl, rfl, rfl, rfl, rfl, rfl, rfl, rfl, rfl, rfl, rfl, rfl, rfl, rfl, rfl, rfl, rfl, rfl, rfl, rfl, rfl, rfl, rfl, rfl, rfl, rfl, rfl, rfl, rfl, rfl, rfl, rfl, rfl, rfl, rfl, rfl, rfl, rfl, rfl, rfl⟩
            have hw := hg9.whole
            rw [show ((List.range 71).map g9).toArray = #[g9 0, g9 1, g9 2, g9 3, g9 4, g9 5, g9 6, g9 7, g9 8, g9 9, g9 10, g9 11, g9 12, g9 13, g9 14, g9 15, g9 16, g9 17, g9 18, g9 19, g9 20, g9 21, g9 22, g9 23, g9 24, g9 25, g9 26, g9 27, g9 28, g9 29, g9 30, g9 31, g9 32, g9 33, g9 34, g9 35, g9 36, g9 37, g9 38, g9 39, g9 40, g9 41, g9 42, g9 43, g9 44, g9 45, g9 46, g9 47, g9 48, g9 49, g9 50, g9 51, g9 52, g9 53, g9 54, g9 55, g9 56, g9 57, g9 58, g9 59, g9 60, g9 61, g9 62, g9 63, g9 64, g9 65, g9 66, g9 67, g9 68, g9 69, g9 70] from rfl, k0, k1, k2, k3, k4, k5, k6, k7, k8, k9, k10, k11, k12, k13, k14, k15, k16, k17, k18, k19, k20, k21, k22, k23, k24, k25, k26, k27, k28, k29, k30, k31, k32, k33, k34, k35, k36, k37, k38, k39, k40, k41, k68, k69, k70] at hw
            rw [hw]
            clear hw hg9 k0 k1 k2 k3 k4 k5 k6 k7 k8 k9 k10 k11 k12 k13 k14 k15 k16 k17 k18 k19 k20 k21 k22 k23 k24 k25 k26 k27 k28 k29 k30 k31 k32 k33 k34 k35 k36 k37 k38 k39 k40 k41 k68 k69 k70 ha0x ha1x ha2x ha3x ha4x ha5x ha6x ha7x ha8x ha9x ha10x ha11x ha12x
            have HM4 := hid (HM3.out.far2 (m := k) HMK.out (p := .int .i64 (max K2.c px)) (q := .int .i64 (max K2.d py)))
            have HK4 := hid (HK3.out.set2 (p := .int .i64 (max K2.c px)) (q := .int .i64 (max K2.d py)))
            have HQ4 := hid (HQ3.out.far2 (m := k) hqk (p := .int .i64 (max K2.c px)) (q := .int .i64 (max K2.d py)))
            have HB4 := hid (below_set2 HB3.out hk (p := .int .i64 (max K2.c px)) (q := .int .i64 (max K2.d py)))
            clear y0 y1 yf z0 z1 zf HM3 HK3 HN3 HQ3 HB3 hKn
            generalize (W3.setCell _ _).setCell _ _ = W4 at HM4 HK4 HQ4 HB4 ⊢
            go_wp2_with fail
            go_roundw
            case rel => exact ⟨i + 1, by omega, by go_num, K2.add (px, py), HE2, HM4, HK4, hid (fun _ => HQ4.out)⟩
            case measure => simp [intOf]; omega
          · have HE3 := hid (show K.all (pts s) = K2 by rw [HEI.out, List.drop_eq_nil_of_le (by omega)]; rfl)
            have HM5 := hid HMI.out
            have HK5 := hid HKI.out
            have HB5 := hid HBI.out
            clear HQI HEI HP HMI HKI HBI
            go_wp2_with fail
            go_roundw
            case rel => exact ⟨j + 1, K2, by omega, by go_num, hid (by rw [HE1.out, HE3.out]), HM5, HK5, HB5⟩
            case measure => simp [intOf]; omega
      · have HE2 := hid (show bnds ss = K by rw [HE.out, List.drop_eq_nil_of_le (by rw [← HN.out]; omega)]; rfl)
        have hml := HMJ.out.lt
        have hkl := HKJ.out.lt
        have HR2 := hid (HR0.out.below HBJ.out HR0.out.lt)
        have HR3 := hid (HR1.out.below HBJ.out HR1.out.lt)
        have hw1 : w.heap.size < W.heap.size := HR0.out.lt
        have hw2 : w.heap.size + 1 < W.heap.size := HR1.out.lt
        obtain ⟨x0, x1, xf⟩ := HMJ.out.read2
        obtain ⟨y0, y1, yf⟩ := HKJ.out.read2
        obtain ⟨z0, z1, zf⟩ := HR2.out.read2
        obtain ⟨v0, v1, vf⟩ := HR3.out.read2
        go_upto_region 17 with fail
        rename_i Kn hKn
        have HX := hid (HR2.out.set2 (p := .int .i64 K.a) (q := .int .i64 K.b))
        have HX2 := hid (HX.out.far2 (m := w.heap.size + 1) (by omega) (p := .int .i64 K.c) (q := .int .i64 K.d))
        have HY := hid (HR3.out.far2 (m := w.heap.size) (by omega) (p := .int .i64 K.a) (q := .int .i64 K.b))
        have HY2 := hid (HY.out.set2 (p := .int .i64 K.c) (q := .int .i64 K.d))
        have HBX := hid (below_set2 (below_set2 (below_next HB0.out (w' := wo) HBJ.out) (show w.heap.size ≤ w.heap.size from Nat.le_refl _) (p := .int .i64 K.a) (q := .int .i64 K.b)) (show w.heap.size ≤ w.heap.size + 1 by omega) (p := .int .i64 K.c) (q := .int .i64 K.d))
        clear HX HY HR2 HR3
        go_region_with fail
        all_goals
          refine hKn _ _ ?_
          go_wp2_with fail
          exact retPPn Tryd.results19 rfl rfl rfl HX2.out.drew HY2.out.drew ⟨by rw [HE2.out], HBX.out.drew⟩

/-- The error of Bounds, and what it returns. -/
def bE (ss : List Sg) : Int := if chk ss ≠ 0 then chk ss else if ss = [] then 8 else 0
def bB (ss : List Sg) : Bx := if bE ss = 0 then bnds ss else ⟨0, 0, 0, 0⟩
theorem bounds_bad (A : Option Addr) (ss : List Sg) (n c : Nat) (w : World) (hn : n = ss.length) (hs : n ≤ 1000 → Segs w A ss) (h : chk ss ≠ 0) :
    Calls Tryd.prog 19 #[.slice A n c] w fun e w' => e = .returned (.tuple #[pt 0 0, pt 0 0, .int .i64 (chk ss)]) ∧ Below w.heap.size w w' := by
  have HC := fun w1 (h : n ≤ 1000 → Segs w1 A ss) => hid (check_any A ss n c w1 hn h)
  have he : (chk ss != 0) = true := by simp [h]
  have HS := hid hs
  clear hs h hn
  generalize chk ss = r at HC he
  obtain ⟨W0, hW0⟩ : ∃ W0, W0 = (w.alloc (.cells (pc 0 0) 36)).alloc (.cells (pc 0 0) 36) := ⟨_, rfl⟩
  have HR0 := hid (show Var W0 w.heap.size (pc 0 0) 36 by rw [hW0]; exact (Var.new w _ _ _ rfl).alloc _)
  have HR1 := hid (show Var W0 (w.heap.size + 1) (pc 0 0) 36 by rw [hW0]; exact Var.new (w.alloc _) _ _ _ (by simp))
  have HB0 := hid (show Below w.heap.size w W0 by rw [hW0]; exact below_alloc (below_alloc (Below.refl _ w) _) _)
  go_enter Tryd.func19, Tryd.ntmps19
  go_wp2_with fail
  rw [← hW0]
  clear hW0
  (with_reducible refine (HC _ (fun k => (HS.out k).next HB0.out)).out.mono ?_); rintro e W ⟨rfl, hb⟩
  replace HB0 := hid (below_next HB0.out hb)
  replace HR0 := hid (HR0.out.next hb)
  replace HR1 := hid (HR1.out.next hb)
  clear hb HC
  obtain ⟨z0, z1, zf⟩ := HR0.out.read2
  obtain ⟨v0, v1, vf⟩ := HR1.out.read2
  have HX := hid (HR0.out.set2 (p := .int .i64 0) (q := .int .i64 0))
  have HX2 := hid (HX.out.far2 (m := w.heap.size + 1) (by omega) (p := .int .i64 0) (q := .int .i64 0))
  have HY := hid (HR1.out.far2 (m := w.heap.size) (by omega) (p := .int .i64 0) (q := .int .i64 0))
  have HY2 := hid (HY.out.set2 (p := .int .i64 0) (q := .int .i64 0))
  have HBX := hid (below_set2 (below_set2 HB0.out (Nat.le_refl _) (p := .int .i64 0) (q := .int .i64 0)) (show w.heap.size ≤ w.heap.size + 1 by omega) (p := .int .i64 0) (q := .int .i64 0))
  clear HX HY
  go_wp2_with fail
  exact retPPn Tryd.results19 rfl rfl rfl HX2.out HY2.out ⟨rfl, HBX.out⟩
theorem bounds_none (A : Option Addr) (c : Nat) (w : World) :
    Calls Tryd.prog 19 #[.slice A 0 c] w fun e w' => e = .returned (.tuple #[pt 0 0, pt 0 0, .int .i64 8]) ∧ Below w.heap.size w w' := by
  have HC := fun w1 => hid (check_any A [] 0 c w1 rfl (fun _ => Segs.nil w1 A))
  rw [show chk [] = 0 from rfl] at HC
  obtain ⟨W0, hW0⟩ : ∃ W0, W0 = (w.alloc (.cells (pc 0 0) 36)).alloc (.cells (pc 0 0) 36) := ⟨_, rfl⟩
  have HR0 := hid (show Var W0 w.heap.size (pc 0 0) 36 by rw [hW0]; exact (Var.new w _ _ _ rfl).alloc _)
  have HR1 := hid (show Var W0 (w.heap.size + 1) (pc 0 0) 36 by rw [hW0]; exact Var.new (w.alloc _) _ _ _ (by simp))
  have HB0 := hid (show Below w.heap.size w W0 by rw [hW0]; exact below_alloc (below_alloc (Below.refl _ w) _) _)
  go_enter Tryd.func19, Tryd.ntmps19
  go_wp2_with fail
  rw [← hW0]
  clear hW0
  (with_reducible refine (HC _).out.mono ?_); rintro e W ⟨rfl, hb⟩
  replace HB0 := hid (below_next HB0.out hb)
  replace HR0 := hid (HR0.out.next hb)
  replace HR1 := hid (HR1.out.next hb)
  clear hb HC
  obtain ⟨z0, z1, zf⟩ := HR0.out.read2
  obtain ⟨v0, v1, vf⟩ := HR1.out.read2
  have HX := hid (HR0.out.set2 (p := .int .i64 0) (q := .int .i64 0))
  have HX2 := hid (HX.out.far2 (m := w.heap.size + 1) (by omega) (p := .int .i64 0) (q := .int .i64 0))
  have HY := hid (HR1.out.far2 (m := w.heap.size) (by omega) (p := .int .i64 0) (q := .int .i64 0))
  have HY2 := hid (HY.out.set2 (p := .int .i64 0) (q := .int .i64 0))
  have HBX := hid (below_set2 (below_set2 HB0.out (Nat.le_refl _) (p := .int .i64 0) (q := .int .i64 0)) (show w.heap.size ≤ w.heap.size + 1 by omega) (p := .int .i64 0) (q := .int .i64 0))
  clear HX HY
  go_wp2_with fail
  exact retPPn Tryd.results19 rfl rfl rfl HX2.out HY2.out ⟨rfl, HBX.out⟩
theorem bounds_any (A : Option Addr) (ss : List Sg) (n c : Nat) (w : World) (hn : n = ss.length) (hs : Segs w A ss) :
    Calls Tryd.prog 19 #[.slice A n c] w fun e w' => e = .returned (.tuple #[pt (bB ss).a (bB ss).b, pt (bB ss).c (bB ss).d, .int .i64 (bE ss)]) ∧ Below w.heap.size w w' := by
  by_cases h : chk ss = 0
  · by_cases h0 : ss = []
    · subst h0
      subst hn
      exact bounds_none A c w
    · have hp : 0 < n := by rw [hn]; exact List.length_pos_iff.2 h0
      have e : bE ss = 0 := by unfold bE; rw [if_neg (by simpa using h), if_neg h0]
      rw [show bB ss = bnds ss by unfold bB; rw [if_pos e], e]
      exact bounds_good A ss n c w hn hs h hp
  · have e : bE ss = chk ss := by unfold bE; rw [if_pos h]
    rw [show bB ss = ⟨0, 0, 0, 0⟩ by unfold bB; rw [if_neg (by rw [e]; exact h)], e]
    exact bounds_bad A ss n c w hn (fun _ => hs) h

end Go.Proofs.YtbdpjdhnmllkiaaDoor
