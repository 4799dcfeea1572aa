/- Slopes: slopeOf, crosses, cellAt; the reference's crossed. -/
import Derived.Test.YtijkoaggcmgjiaaFil
namespace Go.Proofs.Ytijkoaggcmgjiaa
open Go Go.RowKit
set_option linter.unusedVariables false
set_option linter.unusedSimpArgs false

abbrev slc (s : Sl) : Array Value := #[.int .i64 s.t.x, .int .i64 s.t.y, .int .i64 s.b.x, .int .i64 s.b.y, .int .i64 s.d]
abbrev slv (s : Sl) : Value := .agg (slc s)
theorem slp_t {p q : P2} (h : p.y ≤ q.y) : slp p q = ⟨p, q, 1⟩ := if_pos h
theorem slp_f {p q : P2} (h : ¬ p.y ≤ q.y) : slp p q = ⟨q, p, -1⟩ := if_neg h
theorem Var.read5 {w : World} {n : Nat} {a b c d e : Value} {t : TypeId} (h : Var w n #[a, b, c, d, e] t) :
    w.cell? ⟨n, 0, none⟩ = some a ∧ w.cell? ⟨n, 1, none⟩ = some b ∧ w.cell? ⟨n, 2, none⟩ = some c ∧ w.cell? ⟨n, 3, none⟩ = some d ∧ w.cell? ⟨n, 4, none⟩ = some e ∧ ∀ i, w.frozen? ⟨n, i, none⟩ = false :=
  ⟨h.cell 0, h.cell 1, h.cell 2, h.cell 3, h.cell 4, h.free⟩
theorem loadSl {w : World} {B : Nat} {s : Sl} (hV : Var w B (slc s) 77) : (loadVar 77 ⟨B, 0, none⟩).run Try.prog w = .ok (slv s) w := by
  obtain ⟨c0, c1, c2, c3, c4, -⟩ := hV.read5
  simp [go_sem, *]
theorem retSl {fn : Func} {p : Tmp} {R : Ending → World → Prop} {tmps : Array Value} {w : World} {B : Nat} {s : Sl} (h : fn.results = #[.cell p 77]) (hp : tmps.getD p undef = .pointer (some ⟨B, 0, none⟩))
    (hV : Var w B (slc s) 77) (hR : R (.returned (slv s)) w) : bodyPost Try.prog fn R .ret ⟨tmps, []⟩ w :=
  bodyPost_ret (v := slv s) (by
    show (results fn tmps).run _ w = _
    have e := loadSl hV
    have hp' := hp
    rw [Array.getD_eq_getD_getElem?] at hp'
    simp [results, h, hp', asAddr, e]) rfl hR

theorem slope_any (p q : P2) (w : World) : Calls Try.prog 55 #[ptv p, ptv q] w fun e w' => e = .returned (slv (slp p q)) ∧ Below w.heap.size w w' := by
  by_cases h : p.y ≤ q.y
  · rw [slp_t h]
    go_enter Try.func55, Try.ntmps55
    go_wp2
    exact retSl (s := ⟨p, q, 1⟩) rfl rfl (Var.new _ _ _ _ (by simp)) ⟨rfl, below_alloc (below_alloc (below_alloc (Below.refl _ w) _) _) _⟩
  · rw [slp_f h]
    go_enter Try.func55, Try.ntmps55
    go_wp2
    exact retSl (s := ⟨q, p, -1⟩) rfl rfl (Var.new _ _ _ _ (by simp)) ⟨rfl, below_alloc (below_alloc (below_alloc (Below.refl _ w) _) _) _⟩
theorem crosses_t (s : Sl) (y : Int) (w : World) (h : s.hit y = true) : Calls Try.prog 56 #[slv s, .int .i64 y] w fun e w' => e = .returned (.bool true) ∧ Below w.heap.size w w' := by
  have h' : s.t.y ≤ y ∧ y < s.b.y := by unfold Sl.hit at h; simpa using h
  obtain ⟨h1, h2⟩ := h'
  clear h
  go_enter Try.func56, Try.ntmps56
  go_wp2
  go_ret
  exact ⟨rfl, below_alloc (Below.refl _ w) _⟩
theorem crosses_f (s : Sl) (y : Int) (w : World) (h : s.hit y = false) : Calls Try.prog 56 #[slv s, .int .i64 y] w fun e w' => e = .returned (.bool false) ∧ Below w.heap.size w w' := by
  have h' : ¬ (s.t.y ≤ y ∧ y < s.b.y) := by unfold Sl.hit at h; simpa using h
  clear h
  by_cases h1 : s.t.y ≤ y
  · have h2 : ¬ y < s.b.y := fun k => h' ⟨h1, k⟩
    clear h'
    go_enter Try.func56, Try.ntmps56
    go_wp2
    go_ret
    exact ⟨rfl, below_alloc (Below.refl _ w) _⟩
  · clear h'
    go_enter Try.func56, Try.ntmps56
    go_wp2
    go_ret
    exact ⟨rfl, below_alloc (Below.refl _ w) _⟩

/-- A slope with both ends in range. -/
structure SlIn (s : Sl) : Prop where
  tx : -32767 ≤ s.t.x ∧ s.t.x ≤ 32767
  ty : -32767 ≤ s.t.y ∧ s.t.y ≤ 32767
  bx : -32767 ≤ s.b.x ∧ s.b.x ≤ 32767
  by_ : -32767 ≤ s.b.y ∧ s.b.y ≤ 32767
  d : -1 ≤ s.d ∧ s.d ≤ 1
theorem slp_in {p q : P2} (hp : (-32767 ≤ p.x ∧ p.x ≤ 32767) ∧ -32767 ≤ p.y ∧ p.y ≤ 32767) (hq : (-32767 ≤ q.x ∧ q.x ≤ 32767) ∧ -32767 ≤ q.y ∧ q.y ≤ 32767) : SlIn (slp p q) := by
  unfold slp
  split
  · exact ⟨hp.1, hp.2, hq.1, hq.2, by simp⟩
  · exact ⟨hq.1, hq.2, hp.1, hp.2, by simp⟩
theorem mul_abs {a b A B : Int} (ha : -A ≤ a ∧ a ≤ A) (hb : 0 ≤ b ∧ b ≤ B) : -(A * B) ≤ a * b ∧ a * b ≤ A * B := by
  have hA : 0 ≤ A := by omega
  have h1 : a * b ≤ A * b := Int.mul_le_mul_of_nonneg_right ha.2 hb.1
  have h2 : -A * b ≤ a * b := Int.mul_le_mul_of_nonneg_right ha.1 hb.1
  have h3 : A * b ≤ A * B := Int.mul_le_mul_of_nonneg_left hb.2 hA
  rw [Int.neg_mul] at h2
  omega
theorem num_bd {s : Sl} {y : Int} (h : SlIn s) (hy : s.hit y = true) : -17179738112 ≤ s.num y ∧ s.num y ≤ 17179738112 := by
  have hh := Sl.hit_h hy
  obtain ⟨n1, n2⟩ := num_in (m := -32767) (M := 32767) hy h.tx h.bx
  have : s.h ≤ 65534 := by have := h.ty; have := h.by_; unfold Sl.h; omega
  omega

theorem ins_round {N H : Int} (h1 : -17179738112 ≤ N ∧ N ≤ 17179738112) (h2 : 0 < H ∧ H ≤ 65534) : Ins [-N, 2 * H] := ins2.2 ⟨by omega, by omega⟩
set_option maxHeartbeats 2000000 in
theorem cellAt_any (s : Sl) (y : Int) (w : World) (h : SlIn s) (hy : s.hit y = true) : Calls Try.prog 57 #[slv s, .int .i64 y] w fun e w' => e = .returned (.int .i64 (s.cell y)) ∧ Below w.heap.size w w' := by
  have hh := Sl.hit_h hy
  have hb := num_bd h hy
  have hc := cell_in (m := -32767) (M := 32767) hy h.tx h.bx
  have hy' : s.t.y ≤ y ∧ y < s.b.y := by unfold Sl.hit at hy; simpa using hy
  have E : s.cell y = -((2 * (-s.num y) + 2 * s.h) / (2 * (2 * s.h))) := rfl
  have hn : s.num y = 2 * s.h * s.t.x + (s.b.x - s.t.x) * (2 * y + 1 - 2 * s.t.y) := rfl
  have hk : s.h = s.b.y - s.t.y := rfl
  have hH : s.h ≤ 65534 := by have := h.ty; have := h.by_; omega
  have a1 := mul_abs (a := s.t.x) (b := 2 * s.h) (A := 32767) (B := 131068) h.tx (by omega)
  have a2 := mul_abs (a := s.b.x - s.t.x) (b := 2 * y + 1 - 2 * s.t.y) (A := 65534) (B := 131068) (by have := h.tx; have := h.bx; omega) (by have := h.ty; have := h.by_; omega)
  rw [Int.mul_comm s.t.x (2 * s.h)] at a1
  generalize s.num y = N at *
  generalize s.h = H at *
  obtain ⟨C, hC⟩ : ∃ C, s.cell y = C := ⟨_, rfl⟩
  rw [hC] at hc E ⊢
  obtain ⟨⟨tx, ty⟩, ⟨bx, by_⟩, d⟩ := s
  obtain ⟨⟨t1, t2⟩, ⟨t3, t4⟩, ⟨t5, t6⟩, ⟨t7, t8⟩, -⟩ := h
  obtain ⟨y1, y2⟩ := hy'
  dsimp only at *
  clear hC hy
  obtain ⟨n1, n2⟩ := hb
  obtain ⟨c1, c2⟩ := hc
  obtain ⟨X, e3⟩ : ∃ X, bx - tx = X := ⟨_, rfl⟩
  have x1 : -65534 ≤ X ∧ X ≤ 65534 := by omega
  obtain ⟨x1, x2⟩ := x1
  rw [e3] at a2 hn
  obtain ⟨U, e4⟩ : ∃ U, 2 * y + 1 - 2 * ty = U := ⟨_, rfl⟩
  rw [e4] at a2 hn
  obtain ⟨A1, eA⟩ : ∃ A, 2 * H * tx = A := ⟨_, rfl⟩
  rw [eA] at a1 hn
  obtain ⟨B1, eB⟩ : ∃ A, X * U = A := ⟨_, rfl⟩
  rw [eB] at a2 hn
  obtain ⟨a3, a4⟩ := a1
  obtain ⟨a5, a6⟩ := a2
  have e1 : by_ - ty = H := hk.symm
  have eN : A1 + B1 = N := hn.symm
  clear hk hn
  have HR := hid (round_ok (-N) (2 * H) · (ins_round ⟨n1, n2⟩ ⟨hh, hH⟩) (by omega))
  have EC := hid (show (2 * -N + 2 * H) / (2 * (2 * H)) = -C by omega)
  clear E
  rw [EC.out] at HR
  go_enter Try.func57, Try.ntmps57
  go_wp2_with (go_at_call 97; (with_reducible refine (HR.out _).mono ?_); rintro e w' ⟨rfl, hb⟩)
  go_ret
  exact ⟨rfl, below_next (below_alloc (Below.refl _ w) _) hb⟩
end Go.Proofs.Ytijkoaggcmgjiaa
