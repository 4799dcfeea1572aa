/- dash.Dash's one region that draws its order within a round: a load, a call that goes along the line, a literal, an append, a store. -/
import Derived.Test.YtjflgblplmgjlaaDst
import Derived.Test.YtjflgblplmgjlaaTab
namespace Go.Proofs.Ytjflgblplmgjlaa
open Go Go.RowKit Go.Shelf
set_option linter.unusedVariables false
set_option linter.unusedSimpArgs false

theorem mark_self (L : Nat → Bool) (i : Nat) : Iv.mark L i i = true := by unfold Iv.mark; rw [Nat.beq_refl]; rfl
/-- What between leaves. -/
def Bt (X : World) (b g : Nat) (qs : List P2) (fr tt : Int) (vp : Value) (w : World) : Prop :=
  OwnP w X.heap.size vp (dashS (sidesP qs) fr tt) ∧ ∃ j', Wlk w b g qs j' ∧ Past qs j' tt ∧ Gr (yb b) (yb b) X w
/-- What the append leaves. -/
def Ap (X : World) (S b g : Nat) (qs : List P2) (fr tt : Int) (v : Value) (es : List LE) (vp v' : Value) (w1 w3 : World) : Prop :=
  Bt X b g qs fr tt vp w1 ∧ ∃ A c, vp = .slice A (dashS (sidesP qs) fr tt).length c ∧ ((dashS (sidesP qs) fr tt).length ≤ c ∧ c ≤ maxLen) ∧
    w3.ownsRow S 27 2 v' (es ++ [(⟨A, c, dashS (sidesP qs) fr tt, false⟩ : LE)]).length (lflE (es ++ [(⟨A, c, dashS (sidesP qs) fr tt, false⟩ : LE)])) ∧ Gr v v' w1 w3
structure RI (X : World) (S b g D : Nat) (qs : List P2) (fr tt : Int) (v : Value) (es : List LE) (FX : List (Nat × Value)) (L : Nat → Bool) (f : Nat → Value) (w : World) : Prop where
  x : ∀ p, p ∈ FX → f p.1 = p.2
  a0 : L 0 = true → f 40 = v
  a1 : L 1 = true → f 41 = .int .i64 fr
  a2 : L 2 = true → f 42 = .int .i64 tt
  d4 : L 4 = true → L 3 = true
  d5 : L 5 = true → L 4 = true
  d6 : L 6 = true → L 5 = true ∧ L 0 = true
  d7 : L 7 = true → L 6 = true
  w0 : L 3 = false → Below X.heap.size X w
  w3 : L 3 = true → L 5 = false → Bt X b g qs fr tt (f 43) w
  a4 : L 4 = true → f 44 = .agg #[f 43, .bool false]
  w5 : L 5 = true → L 6 = false → ∃ w1, Bt X b g qs fr tt (f 43) w1 ∧ w = w1.alloc (.cells #[f 43, .bool false] 27) ∧ f 45 = .slice (some ⟨w1.heap.size, 0, none⟩) 1 1
  w6 : L 6 = true → L 7 = false → ∃ w1, Ap X S b g qs fr tt v es (f 43) (f 46) w1 w
  w7 : L 7 = true → ∃ w1 w3, Ap X S b g qs fr tt v es (f 43) (f 46) w1 w3 ∧ w = w3.setCell ⟨D, 0, none⟩ (f 46)
section
variable {X : World} {S b g D : Nat} {qs : List P2} {fr tt : Int} {v : Value} {es : List LE} {FX : List (Nat × Value)} {L : Nat → Bool} {f : Nat → Value} {w : World}
/-- The operations 0, 1, 2 and 4, which leave the memory. -/
theorem RI.val {i d : Nat} {u : Value} (h : RI X S b g D qs fr tt v es FX L f w) (hi : i = 0 ∨ i = 1 ∨ i = 2 ∨ i = 4) (h43 : i = 4 → L 3 = true) (hd : d = 40 + i) (hx : ∀ p ∈ FX, p.1 ≠ d)
    (h0 : i = 0 → u = v) (h1 : i = 1 → u = .int .i64 fr) (h2 : i = 2 → u = .int .i64 tt) (h4 : i = 4 → u = .agg #[f 43, .bool false]) : RI X S b g D qs fr tt v es FX (Iv.mark L i) (upd f d u) w := by
  have n3 : Iv.mark L i 3 = L 3 := mark_ne (by omega)
  have n5 : Iv.mark L i 5 = L 5 := mark_ne (by omega)
  have n6 : Iv.mark L i 6 = L 6 := mark_ne (by omega)
  have n7 : Iv.mark L i 7 = L 7 := mark_ne (by omega)
  have u3 : upd f d u 43 = f 43 := upd_ne f u (by omega)
  have u5 : upd f d u 45 = f 45 := upd_ne f u (by omega)
  have u6 : upd f d u 46 = f 46 := upd_ne f u (by omega)
  refine ⟨fun p hp => by rw [upd_ne f u (hx p hp)]; exact h.x p hp, fun hl => ?_, fun hl => ?_, fun hl => ?_, fun hl => ?_, fun hl => ?_, fun hl => ?_, fun hl => ?_, fun hl => ?_, fun hl hl' => ?_, fun hl => ?_, fun hl hl' => ?_, fun hl hl' => ?_, fun hl => ?_⟩
  · by_cases e : i = 0
    · have : d = 40 := by omega
      subst this; rw [upd_at]; exact h0 e
    · rw [upd_ne f u (by omega)]; rw [mark_ne (by omega)] at hl; exact h.a0 hl
  · by_cases e : i = 1
    · have : d = 41 := by omega
      subst this; rw [upd_at]; exact h1 e
    · rw [upd_ne f u (by omega)]; rw [mark_ne (by omega)] at hl; exact h.a1 hl
  · by_cases e : i = 2
    · have : d = 42 := by omega
      subst this; rw [upd_at]; exact h2 e
    · rw [upd_ne f u (by omega)]; rw [mark_ne (by omega)] at hl; exact h.a2 hl
  · rw [n3]
    by_cases e : i = 4
    · exact h43 e
    · rw [mark_ne (by omega)] at hl; exact h.d4 hl
  · rw [n5] at hl; exact mark_le (h.d5 hl)
  · rw [n5]; rw [n6] at hl; exact ⟨(h.d6 hl).1, mark_le (h.d6 hl).2⟩
  · rw [n6]; rw [n7] at hl; exact h.d7 hl
  · rw [n3] at hl; exact h.w0 hl
  · rw [n3] at hl; rw [n5] at hl'; rw [u3]; exact h.w3 hl hl'
  · rw [u3]
    by_cases e : i = 4
    · have : d = 44 := by omega
      subst this; rw [upd_at]; exact h4 e
    · rw [upd_ne f u (by omega)]; rw [mark_ne (by omega)] at hl; exact h.a4 hl
  · rw [n5] at hl; rw [n6] at hl'; rw [u3, u5]; exact h.w5 hl hl'
  · rw [n6] at hl; rw [n7] at hl'; rw [u3, u6]; exact h.w6 hl hl'
  · rw [n7] at hl; rw [u3, u6]; exact h.w7 hl
/-- The cell of the dashes, ahead of the append. -/
theorem RI.cell (h : RI X S b g D qs fr tt v es FX L f w) (hV : Var X D #[v] 22) (hbD : b ≠ D) (hl : L 6 = false) : w.cell? ⟨D, 0, none⟩ = some v := by
  have bt : ∀ {w1 vp}, Bt X b g qs fr tt vp w1 → Var w1 D #[v] 22 := fun h1 => by
    obtain ⟨-, j', -, -, hg⟩ := h1
    exact hg.var hV (by show some b ≠ some D; simpa using hbD)
  cases e3 : L 3 with
  | false => exact (hV.next (h.w0 e3)).cell 0
  | true =>
    cases e5 : L 5 with
    | false => exact (bt (h.w3 e3 e5)).cell 0
    | true =>
      obtain ⟨w1, h1, rfl, -⟩ := h.w5 e5 hl
      exact ((bt h1).alloc _).cell 0
theorem RI.call {vp : Value} {w' : World} (h : RI X S b g D qs fr tt v es FX L f w) (hx : ∀ p ∈ FX, p.1 ≠ 43) (hl : L 3 = false) (hb : Bt X b g qs fr tt vp w') : RI X S b g D qs fr tt v es FX (Iv.mark L 3) (upd f 43 vp) w' := by
  have h4 : L 4 = false := by cases e : L 4 with | false => rfl | true => rw [h.d4 e] at hl; cases hl
  have e5 : L 5 = false := by cases e : L 5 with | false => rfl | true => rw [h.d5 e] at h4; cases h4
  have e6 : L 6 = false := by cases e : L 6 with | false => rfl | true => rw [(h.d6 e).1] at e5; cases e5
  have e7 : L 7 = false := by cases e : L 7 with | false => rfl | true => rw [h.d7 e] at e6; cases e6
  refine ⟨fun p hp => by rw [upd_ne f vp (hx p hp)]; exact h.x p hp, fun k => ?_, fun k => ?_, fun k => ?_, fun k => mark_self _ _, fun k => ?_, fun k => ?_, fun k => ?_, fun k => ?_, fun _ _ => by rw [upd_at]; exact hb, fun k => ?_, fun k k' => ?_, fun k k' => ?_, fun k => ?_⟩
  · rw [upd_ne f vp (by decide)]; rw [mark_ne (by decide)] at k; exact h.a0 k
  · rw [upd_ne f vp (by decide)]; rw [mark_ne (by decide)] at k; exact h.a1 k
  · rw [upd_ne f vp (by decide)]; rw [mark_ne (by decide)] at k; exact h.a2 k
  · rw [mark_ne (by decide), e5] at k; cases k
  · rw [mark_ne (by decide), e6] at k; cases k
  · rw [mark_ne (by decide), e7] at k; cases k
  · rw [mark_self] at k; cases k
  · rw [mark_ne (by decide), h4] at k; cases k
  · rw [mark_ne (by decide), e5] at k; cases k
  · rw [mark_ne (by decide), e6] at k; cases k
  · rw [mark_ne (by decide), e7] at k; cases k
theorem RI.lit (h : RI X S b g D qs fr tt v es FX L f w) (hx : ∀ p ∈ FX, p.1 ≠ 45) (hl : L 5 = false) (h4 : L 4 = true) : RI X S b g D qs fr tt v es FX (Iv.mark L 5) (upd f 45 (.slice (some ⟨w.heap.size, 0, none⟩) 1 1)) (w.alloc (.cells #[f 43, .bool false] 27)) := by
  have h3 := h.d4 h4
  have e6 : L 6 = false := by cases e : L 6 with | false => rfl | true => rw [(h.d6 e).1] at hl; cases hl
  have e7 : L 7 = false := by cases e : L 7 with | false => rfl | true => rw [h.d7 e] at e6; cases e6
  refine ⟨fun p hp => by rw [upd_ne f _ (hx p hp)]; exact h.x p hp, fun k => ?_, fun k => ?_, fun k => ?_, fun k => ?_, fun k => ?_, fun k => ?_, fun k => ?_, fun k => ?_, fun k k' => ?_, fun k => ?_, fun k k' => ⟨w, ?_, ?_, ?_⟩, fun k k' => ?_, fun k => ?_⟩
  · rw [upd_ne f _ (by decide)]; rw [mark_ne (by decide)] at k; exact h.a0 k
  · rw [upd_ne f _ (by decide)]; rw [mark_ne (by decide)] at k; exact h.a1 k
  · rw [upd_ne f _ (by decide)]; rw [mark_ne (by decide)] at k; exact h.a2 k
  · rw [mark_ne (by decide)]; exact h3
  · rw [mark_ne (by decide)]; exact h4
  · rw [mark_ne (by decide), e6] at k; cases k
  · rw [mark_ne (by decide), e7] at k; cases k
  · rw [mark_ne (by decide), h3] at k; cases k
  · rw [mark_self] at k'; cases k'
  · rw [upd_ne f _ (by decide), upd_ne f _ (by decide)]; rw [mark_ne (by decide)] at k; exact h.a4 k
  · rw [upd_ne f _ (by decide)]; exact h.w3 h3 hl
  · rw [upd_ne f _ (by decide)]
  · rw [upd_at]
  · rw [mark_ne (by decide), e6] at k; cases k
  · rw [mark_ne (by decide), e7] at k; cases k
theorem RI.app {v' : Value} {w1 w' : World} (h : RI X S b g D qs fr tt v es FX L f w) (hx : ∀ p ∈ FX, p.1 ≠ 46) (hl : L 6 = false) (h5 : L 5 = true) (h0 : L 0 = true) (ha : Ap X S b g qs fr tt v es (f 43) v' w1 w') : RI X S b g D qs fr tt v es FX (Iv.mark L 6) (upd f 46 v') w' := by
  have e7 : L 7 = false := by cases e : L 7 with | false => rfl | true => rw [h.d7 e] at hl; cases hl
  refine ⟨fun p hp => by rw [upd_ne f _ (hx p hp)]; exact h.x p hp, fun k => ?_, fun k => ?_, fun k => ?_, fun k => ?_, fun k => ?_, fun k => ?_, fun k => ?_, fun k => ?_, fun k k' => ?_, fun k => ?_, fun k k' => ?_, fun k k' => ⟨w1, ?_⟩, fun k => ?_⟩
  · rw [upd_ne f _ (by decide)]; rw [mark_ne (by decide)] at k; exact h.a0 k
  · rw [upd_ne f _ (by decide)]; rw [mark_ne (by decide)] at k; exact h.a1 k
  · rw [upd_ne f _ (by decide)]; rw [mark_ne (by decide)] at k; exact h.a2 k
  · rw [mark_ne (by decide)]; exact h.d4 (h.d5 h5)
  · rw [mark_ne (by decide)]; exact h.d5 h5
  · rw [mark_ne (by decide), mark_ne (by decide)]; exact ⟨h5, h0⟩
  · rw [mark_ne (by decide), e7] at k; cases k
  · rw [mark_ne (by decide), h.d4 (h.d5 h5)] at k; cases k
  · rw [mark_ne (by decide), h5] at k'; cases k'
  · rw [upd_ne f _ (by decide), upd_ne f _ (by decide)]; rw [mark_ne (by decide)] at k; exact h.a4 k
  · rw [mark_self] at k'; cases k'
  · rw [upd_at, upd_ne f _ (by decide)]; exact ha
  · rw [mark_ne (by decide), e7] at k; cases k
theorem RI.store (h : RI X S b g D qs fr tt v es FX L f w) (h6 : L 6 = true) (hl : L 7 = false) : RI X S b g D qs fr tt v es FX (Iv.mark L 7) f (w.setCell ⟨D, 0, none⟩ (f 46)) := by
  have e5 := (h.d6 h6).1
  have e4 := h.d5 e5
  have e3 := h.d4 e4
  refine ⟨h.x, fun k => ?_, fun k => ?_, fun k => ?_, fun k => ?_, fun k => ?_, fun k => ?_, fun k => ?_, fun k => ?_, fun k k' => ?_, fun k => ?_, fun k k' => ?_, fun k k' => ?_, fun k => ?_⟩
  · rw [mark_ne (by decide)] at k; exact h.a0 k
  · rw [mark_ne (by decide)] at k; exact h.a1 k
  · rw [mark_ne (by decide)] at k; exact h.a2 k
  · rw [mark_ne (by decide)]; exact e3
  · rw [mark_ne (by decide)]; exact e4
  · rw [mark_ne (by decide), mark_ne (by decide)]; exact h.d6 h6
  · rw [mark_ne (by decide)]; exact h6
  · rw [mark_ne (by decide), e3] at k; cases k
  · rw [mark_ne (by decide), e5] at k'; cases k'
  · rw [mark_ne (by decide)] at k; exact h.a4 k
  · rw [mark_ne (by decide), h6] at k'; cases k'
  · rw [mark_self] at k'; cases k'
  · obtain ⟨w1, h1⟩ := h.w6 h6 hl
    exact ⟨w1, w, h1, rfl⟩
theorem RI.start (hx : ∀ p, p ∈ FX → f p.1 = p.2) : RI X S b g D qs fr tt v es FX (fun _ => false) f X.drew := by
  refine ⟨hx, ?_, ?_, ?_, ?_, ?_, ?_, ?_, fun _ => (Below.refl _ X).drew, ?_, ?_, ?_, ?_, ?_⟩
  all_goals (intro k; cases k)
end
section
variable {ρ : Operand → Value} {dst : Option Tmp} {ty : TypeId} {pos : String} {af : Array Edge} {x y : Operand} {w : World} {gd : Option (Nat × Bool)}
theorem run_loadLs {a : Addr} {v : Value} (hx : ρ x = .pointer (some a)) (hV : w.cell? a = some v) (hs : ∃ A n c, v = .slice A n c) :
    (execOp ρ { dst := dst, op := .load 22 x, type := ty, pos := pos, after := af, guard := gd }).run Try.prog w = .ok (.value v) w := by
  obtain ⟨A, n, c, rfl⟩ := hs
  go_simp
theorem run_bldLn {A : Option Addr} {n c : Nat} (hx : ρ x = .slice A n c) :
    (execOp ρ { dst := dst, op := .build 27 #[(0, x)], type := ty, pos := pos, after := af, guard := gd }).run Try.prog w = .ok (.value (.agg #[.slice A n c, .bool false])) w := by
  go_simp
theorem run_litLn {A : Option Addr} {n c : Nat} (hx : ρ x = .agg #[.slice A n c, .bool false]) :
    (execOp ρ { dst := dst, op := .buildSlice 22 1 #[(0, x)], type := ty, pos := pos, after := af, guard := gd }).run Try.prog w = .ok (.value (.slice (some ⟨w.heap.size, 0, none⟩) 1 1)) (w.alloc (.cells #[.slice A n c, .bool false] 27)) := by
  go_simp
theorem run_storeLs {a : Addr} {A : Option Addr} {n c : Nat} {u : Value} (hx : ρ x = .pointer (some a)) (hy : ρ y = .slice A n c) (hc : w.cell? a = some u) (hf : w.frozen? a = false) :
    (execOp ρ { dst := dst, op := .store 22 x y, type := ty, pos := pos, after := af, guard := gd }).run Try.prog w = .ok .skip (w.setCell a (.slice A n c)) := by
  go_simp
end
theorem enters_between : Enters Try.prog 27 := enters_of Try.func27 (by kernel_rfl) rfl
end Go.Proofs.Ytjflgblplmgjlaa
