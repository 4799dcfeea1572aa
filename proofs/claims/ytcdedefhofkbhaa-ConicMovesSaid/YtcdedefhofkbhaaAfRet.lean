/- What a function with a result in a cell hands back. -/
import Derived.Test.YtcdedefhofkbhaaAfVar
import Derived.Laws.ResultCell
namespace Go.Proofs.Ytcdedefhofkbhaa.Af
open Go Go.RowKit
set_option linter.unusedVariables false

theorem Var.set6 {w : World} {n : Nat} {a b c d e f p q r s t u : Value} {ty : TypeId} (h : Var w n #[a, b, c, d, e, f] ty) :
    Var ((((((w.setCell ⟨n, 0, none⟩ p).setCell ⟨n, 1, none⟩ q).setCell ⟨n, 2, none⟩ r).setCell ⟨n, 3, none⟩ s).setCell ⟨n, 4, none⟩ t).setCell ⟨n, 5, none⟩ u) n #[p, q, r, s, t, u] ty :=
  ((((((h.set (i := 0) p).set (i := 1) q).set (i := 2) r).set (i := 3) s).set (i := 4) t).set (i := 5) u)
theorem Var.set2 {w : World} {n : Nat} {a b p q : Value} {ty : TypeId} (h : Var w n #[a, b] ty) :
    Var ((w.setCell ⟨n, 0, none⟩ p).setCell ⟨n, 1, none⟩ q) n #[p, q] ty := (h.set (i := 0) p).set (i := 1) q

theorem below_set6 {w0 w : World} {b : Nat} {p q r s t u : Value} (h : Below w0.heap.size w0 w) (hb : w0.heap.size ≤ b) :
    Below w0.heap.size w0 ((((((w.setCell ⟨b, 0, none⟩ p).setCell ⟨b, 1, none⟩ q).setCell ⟨b, 2, none⟩ r).setCell ⟨b, 3, none⟩ s).setCell ⟨b, 4, none⟩ t).setCell ⟨b, 5, none⟩ u) :=
  (((((h.setCell (p := ⟨b, 0, none⟩) hb p).setCell (p := ⟨b, 1, none⟩) hb q).setCell (p := ⟨b, 2, none⟩) hb r).setCell (p := ⟨b, 3, none⟩) hb s).setCell (p := ⟨b, 4, none⟩) hb t).setCell (p := ⟨b, 5, none⟩) hb u
theorem below_set2 {w0 w : World} {b : Nat} {p q : Value} (h : Below w0.heap.size w0 w) (hb : w0.heap.size ≤ b) :
    Below w0.heap.size w0 ((w.setCell ⟨b, 0, none⟩ p).setCell ⟨b, 1, none⟩ q) :=
  (h.setCell (p := ⟨b, 0, none⟩) hb p).setCell (p := ⟨b, 1, none⟩) hb q

theorem load6 {w : World} {B : Nat} {a b c d e f : Int} (hV : Var w B #[.int .i64 a, .int .i64 b, .int .i64 c, .int .i64 d, .int .i64 e, .int .i64 f] 48) :
    (loadVar 48 ⟨B, 0, none⟩).run Try.prog w = .ok (mx a b c d e f) w := by
  obtain ⟨c0, c1, c2, c3, c4, c5, -⟩ := hV.read6
  simp [go_sem, *]
theorem load2 {w : World} {B : Nat} {a b : Int} (hV : Var w B #[.int .i64 a, .int .i64 b] 23) :
    (loadVar 23 ⟨B, 0, none⟩).run Try.prog w = .ok (pt a b) w := by
  obtain ⟨c0, c1, -⟩ := hV.read2
  simp [go_sem, *]

theorem ret6 {fn : Func} {p : Tmp} {R : Ending → World → Prop} {tmps : Array Value} {w : World} {B : Nat} {a b c d e f : Int} (h : fn.results = #[.cell p 48]) (hp : tmps.getD p undef = .pointer (some ⟨B, 0, none⟩))
    (hV : Var w B #[.int .i64 a, .int .i64 b, .int .i64 c, .int .i64 d, .int .i64 e, .int .i64 f] 48) (hR : R (.returned (mx a b c d e f)) w) : bodyPost Try.prog fn R .ret ⟨tmps, []⟩ w :=
  bodyPost_ret (v := mx a b c d e f) (by
    show (results fn tmps).run _ w = _
    have e := load6 hV
    have hp' := hp
    rw [Array.getD_eq_getD_getElem?] at hp'
    simp [results, h, hp', asAddr, e]) rfl hR
theorem ret6n {fn : Func} {p u : Tmp} {R : Ending → World → Prop} {tmps : Array Value} {w : World} {B : Nat} {a b c d e f r : Int} (h : fn.results = #[.cell p 48, .tmp u]) (hp : tmps.getD p undef = .pointer (some ⟨B, 0, none⟩))
    (hu : tmps.getD u undef = .int .i64 r) (hV : Var w B #[.int .i64 a, .int .i64 b, .int .i64 c, .int .i64 d, .int .i64 e, .int .i64 f] 48) (hR : R (.returned (.tuple #[mx a b c d e f, .int .i64 r])) w) : bodyPost Try.prog fn R .ret ⟨tmps, []⟩ w :=
  bodyPost_ret (v := .tuple #[mx a b c d e f, .int .i64 r]) (by
    have e := load6 hV
    rw [results_cell_tmp h]
    simp [Result.andThen, hp, hu, asAddr, e]) rfl hR
theorem ret2n {fn : Func} {p u : Tmp} {R : Ending → World → Prop} {tmps : Array Value} {w : World} {B : Nat} {a b r : Int} (h : fn.results = #[.cell p 23, .tmp u]) (hp : tmps.getD p undef = .pointer (some ⟨B, 0, none⟩))
    (hu : tmps.getD u undef = .int .i64 r) (hV : Var w B #[.int .i64 a, .int .i64 b] 23) (hR : R (.returned (.tuple #[pt a b, .int .i64 r])) w) : bodyPost Try.prog fn R .ret ⟨tmps, []⟩ w :=
  bodyPost_ret (v := .tuple #[pt a b, .int .i64 r]) (by
    have e := load2 hV
    rw [results_cell_tmp h]
    simp [Result.andThen, hp, hu, asAddr, e]) rfl hR

end Go.Proofs.Ytcdedefhofkbhaa.Af
