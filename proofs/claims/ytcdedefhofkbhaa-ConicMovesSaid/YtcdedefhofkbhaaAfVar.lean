/- Blocks of cells whole, and what holds below a height of the heap. -/
import Derived.Test.YtcdedefhofkbhaaAfLeaf
import Derived.Below
import Derived.Deep.Draws
namespace Go.Proofs.Ytcdedefhofkbhaa.Af
open Go Go.RowKit
set_option linter.unusedVariables false

theorem below_alloc {w W : World} (h : Below w.heap.size w W) (o : Obj) : Below w.heap.size w (W.alloc o) := h.alloc h.size o
theorem below_next {w W w' : World} (h : Below w.heap.size w W) (hb : Below W.heap.size W w') : Below w.heap.size w w' := h.trans (hb.mono h.size)
theorem below_drewN {B : Nat} {a w : World} (h : Below B a w) (n : Nat) : Below B a (w.drewN n) := ⟨h.os, h.tape, h.output, h.size, h.block⟩

/-- Block b has just these cells. -/
def Var (w : World) (b : Nat) (c : Array Value) (t : TypeId) : Prop := w.heap[b]? = some (.cells c t (0, 0))
theorem Var.lt {w : World} {b : Nat} {c : Array Value} {t : TypeId} (h : Var w b c t) : b < w.heap.size := by
  rcases Nat.lt_or_ge b w.heap.size with h1 | h1
  · exact h1
  · unfold Var at h; rw [Array.getElem?_eq_none h1] at h; cases h
theorem Var.cell {w : World} {b : Nat} {c : Array Value} {t : TypeId} (h : Var w b c t) (i : Nat) : w.cell? ⟨b, i, none⟩ = c[i]? := by unfold Var at h; simp [World.cell?, h]
theorem Var.free {w : World} {b : Nat} {c : Array Value} {t : TypeId} (h : Var w b c t) (i : Nat) : w.frozen? ⟨b, i, none⟩ = false := by unfold Var at h; simp [World.frozen?, h]
theorem Var.new (w : World) (c : Array Value) (t : TypeId) (n : Nat) (hn : n = w.heap.size) : Var (w.alloc (.cells c t)) n c t := by
  subst hn
  show (w.heap.push _)[w.heap.size]? = _
  simp
theorem Var.keep {w w' : World} {b : Nat} {c : Array Value} {t : TypeId} (h : Var w b c t) (hk : w'.heap[b]? = w.heap[b]?) : Var w' b c t := hk.trans h
theorem Var.alloc {w : World} {b : Nat} {c : Array Value} {t : TypeId} (h : Var w b c t) (o : Obj) : Var (w.alloc o) b c t := h.keep (Below.heap_alloc _ _ _ h.lt)
theorem Var.drew {w : World} {b : Nat} {c : Array Value} {t : TypeId} (h : Var w b c t) : Var w.drew b c t := h
theorem Var.drewN {w : World} {b : Nat} {c : Array Value} {t : TypeId} (h : Var w b c t) (n : Nat) : Var (w.drewN n) b c t := h
theorem Var.below {w w' : World} {B b : Nat} {c : Array Value} {t : TypeId} (h : Var w b c t) (hb : Below B w w') (hlt : b < B) : Var w' b c t := h.keep (hb.block b hlt)
theorem Var.next {w w' : World} {b : Nat} {c : Array Value} {t : TypeId} (h : Var w b c t) (hb : Below w.heap.size w w') : Var w' b c t := h.below hb h.lt
theorem Var.far {w : World} {b : Nat} {c : Array Value} {t : TypeId} (h : Var w b c t) {p : Addr} (hp : b ≠ p.block) (u : Value) : Var (w.setCell p u) b c t := h.keep (Below.heap_setCell _ _ _ _ hp)
theorem Var.set {w : World} {b i : Nat} {c : Array Value} {t : TypeId} (h : Var w b c t) (u : Value) : Var (w.setCell ⟨b, i, none⟩ u) b (c.setIfInBounds i u) t := by
  unfold Var at h ⊢
  simp [World.setCell, Array.getElem?_modify, h]

theorem Var.read6 {w : World} {n : Nat} {a b c d e f : Value} {t : TypeId} (h : Var w n #[a, b, c, d, e, f] t) :
    w.cell? ⟨n, 0, none⟩ = some a ∧ w.cell? ⟨n, 1, none⟩ = some b ∧ w.cell? ⟨n, 2, none⟩ = some c ∧ w.cell? ⟨n, 3, none⟩ = some d ∧ w.cell? ⟨n, 4, none⟩ = some e ∧ w.cell? ⟨n, 5, none⟩ = some f ∧ ∀ i, w.frozen? ⟨n, i, none⟩ = false :=
  ⟨h.cell 0, h.cell 1, h.cell 2, h.cell 3, h.cell 4, h.cell 5, h.free⟩
theorem Var.read2 {w : World} {n : Nat} {a b : Value} {t : TypeId} (h : Var w n #[a, b] t) :
    w.cell? ⟨n, 0, none⟩ = some a ∧ w.cell? ⟨n, 1, none⟩ = some b ∧ ∀ i, w.frozen? ⟨n, i, none⟩ = false :=
  ⟨h.cell 0, h.cell 1, h.free⟩

theorem Var.lies4 {w : World} {n : Nat} {a b c d : Int} {t : TypeId} (h : Var w n #[.int .i64 a, .int .i64 b, .int .i64 c, .int .i64 d] t) : Lies w n 0 [a, b, c, d] := by
  intro i hi
  rw [h.cell]
  match i, hi with
  | 0, _ => rfl
  | 1, _ => rfl
  | 2, _ => rfl
  | 3, _ => rfl
theorem Var.lies2 {w : World} {n : Nat} {a b : Int} {t : TypeId} (h : Var w n #[.int .i64 a, .int .i64 b] t) : Lies w n 0 [a, b] := by
  intro i hi
  rw [h.cell]
  match i, hi with
  | 0, _ => rfl
  | 1, _ => rfl

end Go.Proofs.Ytcdedefhofkbhaa.Af
