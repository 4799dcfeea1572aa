/- Runs as values; blocks, rows of runs; what the small functions of package region and of the reference return. -/
import Derived.Test.YtjflgblplmgjlaaRows
import Derived.WalkKit
import Derived.WalkSpells
import Derived.RegionTactic
import Derived.Deep.QuietTactic
import Derived.BigQuiet
import Derived.Lib.Hide
import Derived.Below
import Derived.Deep.Draws
import Derived.Laws.ResultCell
namespace Go.Proofs.Ytjflgblplmgjlaa
open Go Go.RowKit
set_option linter.unusedVariables false

theorem hid {p : Prop} (h : p) : Hid p := h

theorem below_alloc {w W : World} (h : Below w.heap.size w W) (o : Obj) : Below w.heap.size w (W.alloc o) := h.alloc h.size o
theorem below_next {w W w' : World} (h : Below w.heap.size w W) (hb : Below W.heap.size W w') : Below w.heap.size w w' := h.trans (hb.mono h.size)
theorem below_drewN {B : Nat} {a w : World} (h : Below B a w) (n : Nat) : Below B a (w.drewN n) := ⟨h.os, h.tape, h.output, h.size, h.block⟩

/-- A run. -/
structure Rn where
  y : Int
  a : Int
  b : Int
instance : Inhabited Rn := ⟨⟨0, 0, 0⟩⟩
theorem Rn.ext' {p q : Rn} (h : p.y = q.y ∧ p.a = q.a ∧ p.b = q.b) : p = q := by
  cases p; cases q; simp at h; simp [h]
instance : DecidableEq Rn := fun p q => decidable_of_iff (p.y = q.y ∧ p.a = q.a ∧ p.b = q.b) ⟨Rn.ext', fun h => by subst h; simp⟩
abbrev cel (s : Rn) : Array Value := #[.int .i64 s.y, .int .i64 s.a, .int .i64 s.b]
abbrev rn (s : Rn) : Value := .agg (cel s)
/-- A point. -/
structure P2 where
  x : Int
  y : Int
instance : Inhabited P2 := ⟨⟨0, 0⟩⟩
theorem P2.ext' {p q : P2} (h : p.x = q.x ∧ p.y = q.y) : p = q := by
  cases p; cases q; simp at h; simp [h]
instance : DecidableEq P2 := fun p q => decidable_of_iff (p.x = q.x ∧ p.y = q.y) ⟨P2.ext', fun h => by subst h; simp⟩
abbrev pcel (p : P2) : Array Value := #[.int .i64 p.x, .int .i64 p.y]
abbrev ptv (p : P2) : Value := .agg (pcel p)

/-- The cells of a run at an address. -/
structure RnAt (W : World) (a : Addr) (s : Rn) : Prop where
  c0 : W.cell? a = some (.int .i64 s.y)
  c1 : W.cell? ⟨a.block, a.off + 1, none⟩ = some (.int .i64 s.a)
  c2 : W.cell? ⟨a.block, a.off + 2, none⟩ = some (.int .i64 s.b)
/-- A row of runs from an address on. -/
def Row (W : World) (a : Addr) (ss : List Rn) : Prop := ∀ i s, ss[i]? = some s → RnAt W (a.add (i * 3)) s
/-- A slice that holds runs, nil and empty ones too. -/
def Runs (W : World) (A : Option Addr) (ss : List Rn) : Prop := ss ≠ [] → ∃ a, A = some a ∧ a.block < W.heap.size ∧ Row W a ss

theorem add_block (a : Addr) (n : Nat) : (a.add n).block = a.block := by unfold Addr.add; split <;> rfl
theorem add_add' (a : Addr) (i j : Nat) : (a.add i).add j = a.add (i + j) := by
  unfold Addr.add
  by_cases hi : i = 0 <;> by_cases hj : j = 0 <;> simp [hi, hj, Nat.add_assoc]
theorem RnAt.below {W W' : World} {B : Nat} {a : Addr} {s : Rn} (h : RnAt W a s) (hb : Below B W W') (hl : a.block < B) : RnAt W' a s := by
  have e : ∀ n, W'.cell? ⟨a.block, a.off + n, none⟩ = W.cell? ⟨a.block, a.off + n, none⟩ := fun n => hb.cell hl
  exact ⟨(hb.cell hl).trans h.c0, (e 1).trans h.c1, (e 2).trans h.c2⟩
theorem Row.below {W W' : World} {B : Nat} {a : Addr} {ss : List Rn} (h : Row W a ss) (hb : Below B W W') (hl : a.block < B) : Row W' a ss :=
  fun i s hs => (h i s hs).below hb (by rw [add_block]; exact hl)
theorem Runs.next {W W' : World} {A : Option Addr} {ss : List Rn} (h : Runs W A ss) (hb : Below W.heap.size W W') : Runs W' A ss := fun hn => by
  obtain ⟨a, rfl, hl, hr⟩ := h hn
  exact ⟨a, rfl, Nat.lt_of_lt_of_le hl hb.size, hr.below hb hl⟩
theorem Runs.nil (W : World) (A : Option Addr) : Runs W A [] := fun h => absurd rfl h
theorem Runs.at_ {W : World} {A : Option Addr} {ss : List Rn} (h : Runs W A ss) {i : Nat} (hi : i < ss.length) : ∃ a, A = some a ∧ a.block < W.heap.size ∧ RnAt W (a.add (i * 3)) ss[i] := by
  obtain ⟨a, rfl, hl, hr⟩ := h (by intro e; subst e; simp at hi)
  exact ⟨a, rfl, hl, hr i _ (List.getElem?_eq_getElem hi)⟩
theorem Runs.take {W : World} {A : Option Addr} {ss : List Rn} (h : Runs W A ss) (k : Nat) : Runs W A (ss.take k) := fun hn => by
  obtain ⟨a, rfl, hl, hr⟩ := h (by intro e; subst e; simp at hn)
  exact ⟨a, rfl, hl, fun i s hs => hr i s (by
    rw [List.getElem?_take] at hs
    split at hs
    · exact hs
    · cases hs)⟩

theorem rnAt_of {w : World} {a : Addr} {s : Rn} (h : ∀ i, i < 3 → w.cell? (a.add i) = (cel s)[i]?) : RnAt w a s :=
  ⟨by have := h 0 (by omega); exact this, h 1 (by omega), h 2 (by omega)⟩
/-- The cells of a point at an address. -/
structure PtAt (W : World) (a : Addr) (s : P2) : Prop where
  c0 : W.cell? a = some (.int .i64 s.x)
  c1 : W.cell? ⟨a.block, a.off + 1, none⟩ = some (.int .i64 s.y)
/-- A slice that holds points, nil and empty ones too. -/
def Pts (W : World) (A : Option Addr) (ss : List P2) : Prop := ss ≠ [] → ∃ a, A = some a ∧ a.block < W.heap.size ∧ ∀ i s, ss[i]? = some s → PtAt W (a.add (i * 2)) s
theorem ptAt_of {w : World} {a : Addr} {s : P2} (h : ∀ i, i < 2 → w.cell? (a.add i) = (pcel s)[i]?) : PtAt w a s :=
  ⟨by have := h 0 (by omega); exact this, h 1 (by omega)⟩
theorem PtAt.below {W W' : World} {B : Nat} {a : Addr} {s : P2} (h : PtAt W a s) (hb : Below B W W') (hl : a.block < B) : PtAt W' a s := by
  have e : ∀ n, W'.cell? ⟨a.block, a.off + n, none⟩ = W.cell? ⟨a.block, a.off + n, none⟩ := fun n => hb.cell hl
  exact ⟨(hb.cell hl).trans h.c0, (e 1).trans h.c1⟩
theorem Pts.nil (W : World) (A : Option Addr) : Pts W A [] := fun h => absurd rfl h
theorem Pts.next {W W' : World} {A : Option Addr} {ss : List P2} (h : Pts W A ss) (hb : Below W.heap.size W W') : Pts W' A ss := fun hn => by
  obtain ⟨a, rfl, hl, hr⟩ := h hn
  exact ⟨a, rfl, Nat.lt_of_lt_of_le hl hb.size, fun i s hi => (hr i s hi).below hb (by rw [add_block]; exact hl)⟩
theorem Pts.at_ {W : World} {A : Option Addr} {ss : List P2} (h : Pts W A ss) {i : Nat} (hi : i < ss.length) : ∃ a, A = some a ∧ a.block < W.heap.size ∧ PtAt W (a.add (i * 2)) ss[i] := by
  obtain ⟨a, rfl, hl, hr⟩ := h (by intro e; subst e; simp at hi)
  exact ⟨a, rfl, hl, hr i _ (List.getElem?_eq_getElem hi)⟩
theorem Pts.take {W : World} {A : Option Addr} {ss : List P2} (h : Pts W A ss) (k : Nat) : Pts W A (ss.take k) := fun hn => by
  obtain ⟨a, rfl, hl, hr⟩ := h (by intro e; subst e; simp at hn)
  exact ⟨a, rfl, hl, fun i s hs => hr i s (by
    rw [List.getElem?_take] at hs
    split at hs
    · exact hs
    · cases hs)⟩

/-- Block b has just these cells. -/
def Var (w : World) (b : Nat) (c : Array Value) (t : TypeId) : Prop := w.heap[b]? = some (.cells c t (0, 0))
theorem Var.lt {w : World} {b : Nat} {c : Array Value} {t : TypeId} (h : Var w b c t) : b < w.heap.size := by
  rcases Nat.lt_or_ge b w.heap.size with h1 | h1
  · exact h1
  · unfold Var at h; rw [Array.getElem?_eq_none h1] at h; cases h
theorem Var.cell {w : World} {b : Nat} {c : Array Value} {t : TypeId} (h : Var w b c t) (i : Nat) : w.cell? ⟨b, i, none⟩ = c[i]? := by unfold Var at h; simp [World.cell?, h]
theorem Var.free {w : World} {b : Nat} {c : Array Value} {t : TypeId} (h : Var w b c t) (i : Nat) : w.frozen? ⟨b, i, none⟩ = false := by unfold Var at h; simp [World.frozen?, h]
theorem Var.new (w : World) (c : Array Value) (t : TypeId) (n : Nat) (hn : n = w.heap.size) : Var (w.alloc (.cells c t)) n c t := by
  subst hn
  show (w.heap.push _)[w.heap.size]? = _
  simp
theorem Var.keep {w w' : World} {b : Nat} {c : Array Value} {t : TypeId} (h : Var w b c t) (hk : w'.heap[b]? = w.heap[b]?) : Var w' b c t := hk.trans h
theorem Var.alloc {w : World} {b : Nat} {c : Array Value} {t : TypeId} (h : Var w b c t) (o : Obj) : Var (w.alloc o) b c t := h.keep (Below.heap_alloc _ _ _ h.lt)
theorem Var.drew {w : World} {b : Nat} {c : Array Value} {t : TypeId} (h : Var w b c t) : Var w.drew b c t := h
theorem Var.drewN {w : World} {b : Nat} {c : Array Value} {t : TypeId} (h : Var w b c t) (n : Nat) : Var (w.drewN n) b c t := h
theorem Var.below {w w' : World} {B b : Nat} {c : Array Value} {t : TypeId} (h : Var w b c t) (hb : Below B w w') (hlt : b < B) : Var w' b c t := h.keep (hb.block b hlt)
theorem Var.next {w w' : World} {b : Nat} {c : Array Value} {t : TypeId} (h : Var w b c t) (hb : Below w.heap.size w w') : Var w' b c t := h.below hb h.lt
theorem Var.far {w : World} {b : Nat} {c : Array Value} {t : TypeId} (h : Var w b c t) {p : Addr} (hp : b ≠ p.block) (u : Value) : Var (w.setCell p u) b c t := h.keep (Below.heap_setCell _ _ _ _ hp)
theorem Var.set {w : World} {b i : Nat} {c : Array Value} {t : TypeId} (h : Var w b c t) (u : Value) : Var (w.setCell ⟨b, i, none⟩ u) b (c.setIfInBounds i u) t := by
  unfold Var at h ⊢
  simp [World.setCell, Array.getElem?_modify, h]
theorem Var.read3 {w : World} {n : Nat} {a b c : Value} {t : TypeId} (h : Var w n #[a, b, c] t) :
    w.cell? ⟨n, 0, none⟩ = some a ∧ w.cell? ⟨n, 1, none⟩ = some b ∧ w.cell? ⟨n, 2, none⟩ = some c ∧ ∀ i, w.frozen? ⟨n, i, none⟩ = false :=
  ⟨h.cell 0, h.cell 1, h.cell 2, h.free⟩
theorem Var.read2 {w : World} {n : Nat} {a b : Value} {t : TypeId} (h : Var w n #[a, b] t) :
    w.cell? ⟨n, 0, none⟩ = some a ∧ w.cell? ⟨n, 1, none⟩ = some b ∧ ∀ i, w.frozen? ⟨n, i, none⟩ = false :=
  ⟨h.cell 0, h.cell 1, h.free⟩
theorem Var.rnAt {w : World} {b : Nat} {s : Rn} {t : TypeId} (h : Var w b (cel s) t) : RnAt w ⟨b, 0, none⟩ s :=
  ⟨h.cell 0, (h.cell (0 + 1)), (h.cell (0 + 2))⟩

/-! ### numbers within a bound -/
def inB (n lo hi : Int) : Bool := decide (lo ≤ n ∧ n ≤ hi)
theorem inB_yes {n lo hi : Int} (h : lo ≤ n ∧ n ≤ hi) : inB n lo hi = true := by unfold inB; simp [h]
theorem inB_no {n lo hi : Int} (h : ¬ (lo ≤ n ∧ n ≤ hi)) : inB n lo hi = false := by unfold inB; simpa using h
theorem inB_iff {n lo hi : Int} : inB n lo hi = true ↔ (lo ≤ n ∧ n ≤ hi) := by unfold inB; simp

theorem in_any (n lo hi : Int) (w : World) : Calls Try.prog 19 #[.int .i64 n, .int .i64 lo, .int .i64 hi] w fun e w' => e = .returned (.bool (inB n lo hi)) ∧ w = w' := by
  by_cases h1 : lo ≤ n
  · by_cases h2 : n ≤ hi
    · rw [inB_yes (by omega)]
      go_enter Try.func19, Try.ntmps19
      go_wp2
      go_ret
      exact ⟨rfl, rfl⟩
    · rw [inB_no (by omega)]
      go_enter Try.func19, Try.ntmps19
      go_wp2
      go_ret
      exact ⟨rfl, rfl⟩
  · rw [inB_no (by omega)]
    go_enter Try.func19, Try.ntmps19
    go_wp2
    go_ret
    exact ⟨rfl, rfl⟩

def Lies (w : World) (b off : Nat) (zs : List Int) : Prop := ∀ i, i < zs.length → w.cell? ⟨b, off + i, none⟩ = some (.int .i64 (zs.getD i 0))
def bnds (zs : List Int) : Bool := zs.all fun z => inB z (-8192) 8192
theorem bnds_drop {zs : List Int} {k : Nat} (h : k < zs.length) : bnds (zs.drop k) = (inB (zs.getD k 0) (-8192) 8192 && bnds (zs.drop (k + 1))) := by
  have e : zs.getD k 0 = zs[k] := by simp [h]
  rw [List.drop_eq_getElem_cons h, e]
  rfl
theorem Var.lies2 {w : World} {n : Nat} {a b : Int} {t : TypeId} (h : Var w n #[.int .i64 a, .int .i64 b] t) : Lies w n 0 [a, b] := by
  intro i hi
  rw [h.cell]
  match i, hi with
  | 0, _ => rfl
  | 1, _ => rfl
theorem Var.lies4 {w : World} {n : Nat} {a b c d : Int} {t : TypeId} (h : Var w n #[.int .i64 a, .int .i64 b, .int .i64 c, .int .i64 d] t) : Lies w n 0 [a, b, c, d] := by
  intro i hi
  rw [h.cell]
  match i, hi with
  | 0, _ => rfl
  | 1, _ => rfl
  | 2, _ => rfl
  | 3, _ => rfl

/-- Whether a run may follow another one. -/
def behind (s l : Rn) : Bool := decide (l.y < s.y ∨ s.y = l.y ∧ l.b < s.a)
end Go.Proofs.Ytjflgblplmgjlaa
