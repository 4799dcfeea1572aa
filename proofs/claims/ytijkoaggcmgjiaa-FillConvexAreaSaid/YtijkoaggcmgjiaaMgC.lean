/- Put together by merge.py: CoLeaf, CoFan, CoStep, CoSeq, CoFanB, CoInv, CoTab, CoTabJ, CoNew, CoCur, CoRun, CoArc, CoArcN. -/
import Derived.Test.YtijkoaggcmgjiaaRows
import Derived.WalkKit
import Derived.WalkSpells
import Derived.RegionTactic
import Derived.Deep.QuietTactic
import Derived.BigQuiet
import Derived.Lib.Hide
import Derived.Below
import Derived.Deep.Draws
import Derived.Laws.ResultCell
import Derived.StillTail
import Derived.Shelf.Abstract
import Derived.Deep.Cut

/- Segments as values; blocks, rows of segments; what the small functions of package path and of the reference return. -/
namespace Go.Proofs.Ytijkoaggcmgjiaa.Co
open Go Go.RowKit
set_option linter.unusedVariables false

theorem hid {p : Prop} (h : p) : Hid p := h

theorem below_alloc {w W : World} (h : Below w.heap.size w W) (o : Obj) : Below w.heap.size w (W.alloc o) := h.alloc h.size o
theorem below_next {w W w' : World} (h : Below w.heap.size w W) (hb : Below W.heap.size W w') : Below w.heap.size w w' := h.trans (hb.mono h.size)
theorem below_drewN {B : Nat} {a w : World} (h : Below B a w) (n : Nat) : Below B a (w.drewN n) := ⟨h.os, h.tape, h.output, h.size, h.block⟩

/-- A segment. -/
structure Sg where
  k : Int
  x : Int
  y : Int
  u : Int
  v : Int
  w : Int
instance : Inhabited Sg := ⟨⟨0, 0, 0, 0, 0, 0⟩⟩
theorem Sg.ext' {a b : Sg} (h : a.k = b.k ∧ a.x = b.x ∧ a.y = b.y ∧ a.u = b.u ∧ a.v = b.v ∧ a.w = b.w) : a = b := by
  cases a; cases b; simp at h; simp [h]
instance : DecidableEq Sg := fun a b => decidable_of_iff (a.k = b.k ∧ a.x = b.x ∧ a.y = b.y ∧ a.u = b.u ∧ a.v = b.v ∧ a.w = b.w) ⟨Sg.ext', fun h => by subst h; simp⟩
abbrev cel (s : Sg) : Array Value := #[.int .i64 s.k, .int .i64 s.x, .int .i64 s.y, .int .i64 s.u, .int .i64 s.v, .int .i64 s.w]
abbrev seg (s : Sg) : Value := .agg (cel s)
abbrev pt (x y : Int) : Value := .agg #[.int .i64 x, .int .i64 y]
abbrev mx (a b c d e f : Int) : Value := .agg #[.int .i64 a, .int .i64 b, .int .i64 c, .int .i64 d, .int .i64 e, .int .i64 f]

/-- The cells of a segment at an address. -/
structure SegAt (W : World) (a : Addr) (s : Sg) : Prop where
  c0 : W.cell? a = some (.int .i64 s.k)
  c1 : W.cell? ⟨a.block, a.off + 1, none⟩ = some (.int .i64 s.x)
  c2 : W.cell? ⟨a.block, a.off + 2, none⟩ = some (.int .i64 s.y)
  c3 : W.cell? ⟨a.block, a.off + 3, none⟩ = some (.int .i64 s.u)
  c4 : W.cell? ⟨a.block, a.off + 4, none⟩ = some (.int .i64 s.v)
  c5 : W.cell? ⟨a.block, a.off + 5, none⟩ = some (.int .i64 s.w)
/-- A row of segments from an address on. -/
def Row (W : World) (a : Addr) (ss : List Sg) : Prop := ∀ i s, ss[i]? = some s → SegAt W (a.add (i * 6)) s
/-- A slice that holds segments, nil and empty ones too. -/
def Segs (W : World) (A : Option Addr) (ss : List Sg) : Prop := ss ≠ [] → ∃ a, A = some a ∧ a.block < W.heap.size ∧ Row W a ss

theorem add_block (a : Addr) (n : Nat) : (a.add n).block = a.block := by unfold Addr.add; split <;> rfl
theorem add_add' (a : Addr) (i j : Nat) : (a.add i).add j = a.add (i + j) := by
  unfold Addr.add
  by_cases hi : i = 0 <;> by_cases hj : j = 0 <;> simp [hi, hj, Nat.add_assoc]
theorem SegAt.below {W W' : World} {B : Nat} {a : Addr} {s : Sg} (h : SegAt W a s) (hb : Below B W W') (hl : a.block < B) : SegAt W' a s := by
  have e : ∀ n, W'.cell? ⟨a.block, a.off + n, none⟩ = W.cell? ⟨a.block, a.off + n, none⟩ := fun n => hb.cell hl
  exact ⟨(hb.cell hl).trans h.c0, (e 1).trans h.c1, (e 2).trans h.c2, (e 3).trans h.c3, (e 4).trans h.c4, (e 5).trans h.c5⟩
theorem Row.below {W W' : World} {B : Nat} {a : Addr} {ss : List Sg} (h : Row W a ss) (hb : Below B W W') (hl : a.block < B) : Row W' a ss :=
  fun i s hs => (h i s hs).below hb (by rw [add_block]; exact hl)
theorem Segs.next {W W' : World} {A : Option Addr} {ss : List Sg} (h : Segs W A ss) (hb : Below W.heap.size W W') : Segs W' A ss := fun hn => by
  obtain ⟨a, rfl, hl, hr⟩ := h hn
  exact ⟨a, rfl, Nat.lt_of_lt_of_le hl hb.size, hr.below hb hl⟩
theorem Segs.nil (W : World) (A : Option Addr) : Segs W A [] := fun h => absurd rfl h
theorem Segs.at_ {W : World} {A : Option Addr} {ss : List Sg} (h : Segs W A ss) {i : Nat} (hi : i < ss.length) : ∃ a, A = some a ∧ a.block < W.heap.size ∧ SegAt W (a.add (i * 6)) ss[i] := by
  obtain ⟨a, rfl, hl, hr⟩ := h (by intro e; subst e; simp at hi)
  exact ⟨a, rfl, hl, hr i _ (List.getElem?_eq_getElem hi)⟩

/-- Block b has just these cells. -/
def Var (w : World) (b : Nat) (c : Array Value) (t : TypeId) : Prop := w.heap[b]? = some (.cells c t (0, 0))
theorem Var.lt {w : World} {b : Nat} {c : Array Value} {t : TypeId} (h : Var w b c t) : b < w.heap.size := by
  rcases Nat.lt_or_ge b w.heap.size with h1 | h1
  · exact h1
  · unfold Var at h; rw [Array.getElem?_eq_none h1] at h; cases h
theorem Var.cell {w : World} {b : Nat} {c : Array Value} {t : TypeId} (h : Var w b c t) (i : Nat) : w.cell? ⟨b, i, none⟩ = c[i]? := by unfold Var at h; simp [World.cell?, h]
theorem Var.free {w : World} {b : Nat} {c : Array Value} {t : TypeId} (h : Var w b c t) (i : Nat) : w.frozen? ⟨b, i, none⟩ = false := by unfold Var at h; simp [World.frozen?, h]
theorem Var.new (w : World) (c : Array Value) (t : TypeId) (n : Nat) (hn : n = w.heap.size) : Var (w.alloc (.cells c t)) n c t := by
  subst hn
  show (w.heap.push _)[w.heap.size]? = _
  simp
theorem Var.keep {w w' : World} {b : Nat} {c : Array Value} {t : TypeId} (h : Var w b c t) (hk : w'.heap[b]? = w.heap[b]?) : Var w' b c t := hk.trans h
theorem Var.alloc {w : World} {b : Nat} {c : Array Value} {t : TypeId} (h : Var w b c t) (o : Obj) : Var (w.alloc o) b c t := h.keep (Below.heap_alloc _ _ _ h.lt)
theorem Var.drew {w : World} {b : Nat} {c : Array Value} {t : TypeId} (h : Var w b c t) : Var w.drew b c t := h
theorem Var.drewN {w : World} {b : Nat} {c : Array Value} {t : TypeId} (h : Var w b c t) (n : Nat) : Var (w.drewN n) b c t := h
theorem Var.below {w w' : World} {B b : Nat} {c : Array Value} {t : TypeId} (h : Var w b c t) (hb : Below B w w') (hlt : b < B) : Var w' b c t := h.keep (hb.block b hlt)
theorem Var.next {w w' : World} {b : Nat} {c : Array Value} {t : TypeId} (h : Var w b c t) (hb : Below w.heap.size w w') : Var w' b c t := h.below hb h.lt
theorem Var.far {w : World} {b : Nat} {c : Array Value} {t : TypeId} (h : Var w b c t) {p : Addr} (hp : b ≠ p.block) (u : Value) : Var (w.setCell p u) b c t := h.keep (Below.heap_setCell _ _ _ _ hp)
theorem Var.set {w : World} {b i : Nat} {c : Array Value} {t : TypeId} (h : Var w b c t) (u : Value) : Var (w.setCell ⟨b, i, none⟩ u) b (c.setIfInBounds i u) t := by
  unfold Var at h ⊢
  simp [World.setCell, Array.getElem?_modify, h]
theorem Var.read6 {w : World} {n : Nat} {a b c d e f : Value} {t : TypeId} (h : Var w n #[a, b, c, d, e, f] t) :
    w.cell? ⟨n, 0, none⟩ = some a ∧ w.cell? ⟨n, 1, none⟩ = some b ∧ w.cell? ⟨n, 2, none⟩ = some c ∧ w.cell? ⟨n, 3, none⟩ = some d ∧ w.cell? ⟨n, 4, none⟩ = some e ∧ w.cell? ⟨n, 5, none⟩ = some f ∧ ∀ i, w.frozen? ⟨n, i, none⟩ = false :=
  ⟨h.cell 0, h.cell 1, h.cell 2, h.cell 3, h.cell 4, h.cell 5, h.free⟩
theorem Var.read2 {w : World} {n : Nat} {a b : Value} {t : TypeId} (h : Var w n #[a, b] t) :
    w.cell? ⟨n, 0, none⟩ = some a ∧ w.cell? ⟨n, 1, none⟩ = some b ∧ ∀ i, w.frozen? ⟨n, i, none⟩ = false :=
  ⟨h.cell 0, h.cell 1, h.free⟩
theorem Var.set6 {w : World} {n : Nat} {a b c d e f p q r s t u : Value} {ty : TypeId} (h : Var w n #[a, b, c, d, e, f] ty) :
    Var ((((((w.setCell ⟨n, 0, none⟩ p).setCell ⟨n, 1, none⟩ q).setCell ⟨n, 2, none⟩ r).setCell ⟨n, 3, none⟩ s).setCell ⟨n, 4, none⟩ t).setCell ⟨n, 5, none⟩ u) n #[p, q, r, s, t, u] ty :=
  ((((((h.set (i := 0) p).set (i := 1) q).set (i := 2) r).set (i := 3) s).set (i := 4) t).set (i := 5) u)
theorem below_set6 {w0 w : World} {b : Nat} {p q r s t u : Value} (h : Below w0.heap.size w0 w) (hb : w0.heap.size ≤ b) :
    Below w0.heap.size w0 ((((((w.setCell ⟨b, 0, none⟩ p).setCell ⟨b, 1, none⟩ q).setCell ⟨b, 2, none⟩ r).setCell ⟨b, 3, none⟩ s).setCell ⟨b, 4, none⟩ t).setCell ⟨b, 5, none⟩ u) :=
  (((((h.setCell (p := ⟨b, 0, none⟩) hb p).setCell (p := ⟨b, 1, none⟩) hb q).setCell (p := ⟨b, 2, none⟩) hb r).setCell (p := ⟨b, 3, none⟩) hb s).setCell (p := ⟨b, 4, none⟩) hb t).setCell (p := ⟨b, 5, none⟩) hb u

/-! ### numbers within a bound -/
def Wi (m : Int) (zs : List Int) : Prop := ∀ i, i < zs.length → -m ≤ zs.getD i 0 ∧ zs.getD i 0 ≤ m
def Lies (w : World) (b off : Nat) (zs : List Int) : Prop := ∀ i, i < zs.length → w.cell? ⟨b, off + i, none⟩ = some (.int .i64 (zs.getD i 0))

set_option maxHeartbeats 400000 in
theorem within_yes (m : Int) (zs : List Int) (b off cap : Nat) (w : World) (hm : 0 ≤ m ∧ m ≤ 268435456) (hl : zs.length ≤ 4)
    (hc : Lies w b off zs) (hr : Wi m zs) :
    Calls Try.prog 106 #[.int .i64 m, .slice (some ⟨b, off, none⟩) zs.length cap] w fun e w' => e = .returned (.bool true) ∧ w = w' := by
  have HC := hid hc
  have HR := hid hr
  obtain ⟨m1, m2⟩ := hm
  clear hc hr
  go_enter Try.func106, Try.ntmps106
  go_wp2
  go_loop [9] (fun i => ∃ k : Nat, k ≤ zs.length ∧ i = .int .i64 k) (fun i => zs.length - (intOf i).toNat)
  case atStart => exact ⟨0, Nat.zero_le _, rfl⟩
  case round =>
    obtain ⟨k, hk, rfl⟩ := hrel
    by_cases hlt : k < zs.length
    · have hcell := HC.out k hlt
      have h1 := (HR.out k hlt).1
      have h2 := (HR.out k hlt).2
      clear HC HR
      generalize zs.getD k 0 = x at hcell h1 h2
      go_wp2
      go_round
      case rel => exact ⟨k + 1, by omega, by go_num⟩
      case measure => simp [intOf]; omega
    · go_wp2
      go_ret
      exact ⟨rfl, rfl⟩

set_option maxHeartbeats 400000 in
theorem within_no (m : Int) (zs : List Int) (b off cap : Nat) (w : World) (hm : 0 ≤ m ∧ m ≤ 268435456) (hl : zs.length ≤ 4)
    (hc : Lies w b off zs) (hr : ¬ Wi m zs) :
    Calls Try.prog 106 #[.int .i64 m, .slice (some ⟨b, off, none⟩) zs.length cap] w fun e w' => e = .returned (.bool false) ∧ w = w' := by
  have HC := hid hc
  have HR := hid hr
  obtain ⟨m1, m2⟩ := hm
  clear hc hr
  go_enter Try.func106, Try.ntmps106
  go_wp2
  go_loop [9] (fun i => ∃ k : Nat, k ≤ zs.length ∧ i = .int .i64 k ∧ Hid (∀ j, j < k → -m ≤ zs.getD j 0 ∧ zs.getD j 0 ≤ m)) (fun i => zs.length - (intOf i).toNat)
  case atStart => exact ⟨0, Nat.zero_le _, rfl, hid (fun j hj => absurd hj (Nat.not_lt_zero j))⟩
  case round =>
    obtain ⟨k, hk, rfl, hp⟩ := hrel
    by_cases hlt : k < zs.length
    · have hcell := HC.out k hlt
      by_cases hin : -m ≤ zs.getD k 0 ∧ zs.getD k 0 ≤ m
      · have h1 := hin.1
        have h2 := hin.2
        have HIN := hid hin
        clear hin
        generalize zs.getD k 0 = x at hcell h1 h2
        go_wp2
        go_round
        case rel => exact ⟨k + 1, by omega, by go_num, hid (fun j hj => by
          by_cases e : j = k
          · subst e; exact HIN.out
          · exact hp.out j (by omega))⟩
        case measure => simp [intOf]; omega
      · clear HC HR hp
        generalize zs.getD k 0 = x at hcell hin
        by_cases hlo : x < -m
        · clear hin
          go_wp2
          go_ret
          exact ⟨rfl, rfl⟩
        · have hhi : m < x := by omega
          clear hin
          go_wp2
          go_ret
          exact ⟨rfl, rfl⟩
    · exact absurd (fun i hi => hp.out i (by omega)) HR.out

instance (m : Int) (zs : List Int) : Decidable (Wi m zs) := inferInstanceAs (Decidable (∀ i, i < zs.length → _))
theorem within_any (m : Int) (zs : List Int) (b off cap n : Nat) (w : World) (hm : 0 ≤ m ∧ m ≤ 268435456) (hl : zs.length ≤ 4) (hn : n = zs.length)
    (hc : Lies w b off zs) : Calls Try.prog 106 #[.int .i64 m, .slice (some ⟨b, off, none⟩) n cap] w fun e w' => e = .returned (.bool (decide (Wi m zs))) ∧ w = w' := by
  subst hn
  by_cases h : Wi m zs
  · rw [decide_eq_true h]; exact within_yes m zs b off cap w hm hl hc h
  · rw [decide_eq_false h]; exact within_no m zs b off cap w hm hl hc h
theorem wi4 {m a b c d : Int} : Wi m [a, b, c, d] ↔ (-m ≤ a ∧ a ≤ m) ∧ (-m ≤ b ∧ b ≤ m) ∧ (-m ≤ c ∧ c ≤ m) ∧ (-m ≤ d ∧ d ≤ m) :=
  ⟨fun h => ⟨h 0 (by simp), h 1 (by simp), h 2 (by simp), h 3 (by simp)⟩, fun h i hi => match i, hi with
    | 0, _ => h.1
    | 1, _ => h.2.1
    | 2, _ => h.2.2.1
    | 3, _ => h.2.2.2⟩
theorem wi1 {m a : Int} : Wi m [a] ↔ (-m ≤ a ∧ a ≤ m) :=
  ⟨fun h => h 0 (by simp), fun h i hi => match i, hi with
    | 0, _ => h⟩
theorem Var.lies4 {w : World} {n : Nat} {a b c d : Int} {t : TypeId} (h : Var w n #[.int .i64 a, .int .i64 b, .int .i64 c, .int .i64 d] t) : Lies w n 0 [a, b, c, d] := by
  intro i hi
  rw [h.cell]
  match i, hi with
  | 0, _ => rfl
  | 1, _ => rfl
  | 2, _ => rfl
  | 3, _ => rfl
theorem Var.lies1 {w : World} {n : Nat} {a : Int} {t : TypeId} (h : Var w n #[.int .i64 a] t) : Lies w n 0 [a] := by
  intro i hi
  rw [h.cell]
  match i, hi with
  | 0, _ => rfl

/-! ### meaning -/
/-- The segment without the fields that have no meaning for its kind. -/
def mean (s : Sg) : Sg := if s.k = 3 then s else if s.k = 4 then ⟨s.k, 0, 0, 0, 0, 0⟩ else ⟨s.k, s.x, s.y, 0, 0, 0⟩

theorem load6 {w : World} {B : Nat} {s : Sg} (hV : Var w B (cel s) 97) : (loadVar 97 ⟨B, 0, none⟩).run Try.prog w = .ok (seg s) w := by
  obtain ⟨c0, c1, c2, c3, c4, c5, -⟩ := hV.read6
  simp [go_sem, *]
theorem ret6 {fn : Func} {p : Tmp} {R : Ending → World → Prop} {tmps : Array Value} {w : World} {B : Nat} {s : Sg} (h : fn.results = #[.cell p 97]) (hp : tmps.getD p undef = .pointer (some ⟨B, 0, none⟩))
    (hV : Var w B (cel s) 97) (hR : R (.returned (seg s)) w) : bodyPost Try.prog fn R .ret ⟨tmps, []⟩ w :=
  bodyPost_ret (v := seg s) (by
    show (results fn tmps).run _ w = _
    have e := load6 hV
    have hp' := hp
    rw [Array.getD_eq_getD_getElem?] at hp'
    simp [results, h, hp', asAddr, e]) rfl hR

theorem meaning_any (s : Sg) (w : World) : Calls Try.prog 126 #[seg s] w fun e w' => e = .returned (seg (mean s)) ∧ Below w.heap.size w w' := by
  obtain ⟨k, x, y, u, v, z⟩ := s
  by_cases h3 : k = 3
  · subst h3
    rw [show mean _ = _ from rfl]
    go_enter Try.func126, Try.ntmps126
    go_wp2
    exact ret6 (s := ⟨3, x, y, u, v, z⟩) Try.results126 rfl (Var.new (w.alloc _) _ _ (w.heap.size + 1) (by simp)) ⟨rfl, below_alloc (below_alloc (Below.refl _ w) _) _⟩
  by_cases h4 : k = 4
  · subst h4
    rw [show mean _ = _ from rfl]
    go_enter Try.func126, Try.ntmps126
    go_wp2
    exact ret6 (s := ⟨4, 0, 0, 0, 0, 0⟩) Try.results126 rfl (Var.new (w.alloc _) _ _ (w.heap.size + 1) (by simp)) ⟨rfl, below_alloc (below_alloc (Below.refl _ w) _) _⟩
  · rw [show mean ⟨k, x, y, u, v, z⟩ = ⟨k, x, y, 0, 0, 0⟩ from (if_neg h3).trans (if_neg h4)]
    go_enter Try.func126, Try.ntmps126
    go_wp2
    exact ret6 (s := ⟨k, x, y, 0, 0, 0⟩) Try.results126 rfl (Var.new (w.alloc _) _ _ (w.heap.size + 1) (by simp)) ⟨rfl, below_alloc (below_alloc (Below.refl _ w) _) _⟩

end Go.Proofs.Ytijkoaggcmgjiaa.Co

/- A region that draws its order, all of whose operations but a forced tail keep a class of worlds: one walk in the order of the text serves every order. One of the operations, number s, may move the worlds from one class to another (a new block). -/
namespace Go.Proofs.Ytijkoaggcmgjiaa.Co
open Go Go.RowKit
set_option linter.unusedVariables false

section
variable {P : Program} {ops : Array Oper} {md : Region.Mode} {s : Nat} {C : Bool → World → Prop}

/-- What an operation's run has to be: the value v, and a world of the class K. -/
def Fans (P : Program) (K : World → Prop) (w : World) (v : Value) : Result Next → Prop
  | .ok (.value u) w' => K w' ∧ u = v
  | .ok .skip w' => K w' ∧ v = undef
  | .ok (.enter f args) w' => w' = w ∧ Calls P f args w fun e w'' => e = .returned v ∧ K w''
  | _ => False

/-- Operation number i yields v in every world of the class in which it may come up; or its guard says no. -/
def Fan (P : Program) (ops : Array Oper) (s : Nat) (C : Bool → World → Prop) (i : Nat) (o : Oper) (a : Act) (v : Value) : Prop :=
  (Region.wanted o (yielded ops a.tmps) = true ∧ ∀ b w, (i = s → b = false) → C b w → Fans P (C (b || i == s)) w v ((execOp a.eval o).run P w)) ∨
  (Region.wanted o (yielded ops a.tmps) = false ∧ v = undef ∧ i ≠ s)

/-- The walk in the order of the text, from operation number i on. -/
def Walks (P : Program) (ops : Array Oper) (s : Nat) (C : Bool → World → Prop) (Q : Act → Prop) : Nat → List Oper → Act → Prop
  | _, [], a => Q a
  | i, o :: rest, a => ∃ v, Fan P ops s C i o a v ∧ Walks P ops s C Q (i + 1) rest (a.put o.dst v)

def fanAt (P : Program) (ops : Array Oper) (s : Nat) (C : Bool → World → Prop) (i : Nat) (K : Act → Prop) (a : Act) : Prop :=
  match ops[i]? with
  | none => K a
  | some o => ∃ v, Fan P ops s C i o a v ∧ K (a.put o.dst v)

theorem fanAt_mono {i : Nat} {a : Act} {K K' : Act → Prop} (h : ∀ a, K a → K' a) (hh : fanAt P ops s C i K a) : fanAt P ops s C i K' a := by
  unfold fanAt at *
  cases ho : ops[i]? with
  | none => simp only [ho] at hh ⊢; exact h _ hh
  | some o => simp only [ho] at hh ⊢; exact ⟨hh.choose, hh.choose_spec.1, h _ hh.choose_spec.2⟩

/-- Whatever order is picked while the first n operations come up. -/
def fanHead (P : Program) (md : Region.Mode) (ops : Array Oper) (s : Nat) (C : Bool → World → Prop) (n : Nat) (L : Array Bool → Act → Prop) : Nat → Array Bool → Act → Prop
  | 0, listed, a => L listed a
  | f + 1, listed, a => Region.ready md ops listed ≠ [] ∧ ∀ i ∈ Region.ready md ops listed, i < n ∧ fanAt P ops s C i (fanHead P md ops s C n L f (listed.setIfInBounds i true)) a

theorem ready_lt {i : Nat} {listed : Array Bool} (h : i ∈ Region.ready md ops listed) : i < ops.size := by
  obtain ⟨_, o, ho, _⟩ := mem_ready.1 h
  exact (Array.getElem?_eq_some_iff.1 ho).1

theorem flag_set {i : Nat} {listed : Array Bool} (hi : i < listed.size) : (listed.setIfInBounds i true).getD s false = (listed.getD s false || i == s) := by
  by_cases h : i = s
  · subst h; simp [hi]
  · rw [getD_set_ne false h, beq_false_of_ne h, Bool.or_false]

theorem wpOp_of_fanAt {i : Nat} {a : Act} {w : World} {b : Bool} {K : Act → Prop} {K' : Act → World → Prop} {Q : Exit → Act → World → Prop} (hb : i = s → b = false) (hC : C b w)
    (h : ∀ a w', C (b || i == s) w' → K a → K' a w') (hn : i < ops.size) (hh : fanAt P ops s C i K a) : wpOp P ops Q i K' a w := by
  have ho : ops[i]? = some ops[i] := Array.getElem?_eq_getElem hn
  unfold fanAt at hh
  simp only [ho] at hh
  obtain ⟨v, hv, hk⟩ := hh
  unfold wpOp
  simp only [ho]
  rcases hv with ⟨hw, hv⟩ | ⟨hw, rfl, hne⟩
  case inr =>
    rw [if_neg (by rw [hw]; exact Bool.false_ne_true)]
    exact h _ _ (by rw [beq_false_of_ne hne, Bool.or_false]; exact hC) hk
  rw [if_pos hw]
  refine .inl ?_
  have h1 := hv b w hb hC
  unfold Oper.wp
  generalize (execOp a.eval ops[i]).run P w = r at h1
  cases r with
  | ok n w' =>
    cases n <;> simp only [Fans] at h1 <;> simp only [Oper.upon]
    case value u =>
      obtain ⟨h2, rfl⟩ := h1
      exact h _ _ h2 hk
    case skip =>
      obtain ⟨h2, rfl⟩ := h1
      exact h _ _ h2 hk
    case enter f args =>
      obtain ⟨rfl, h2⟩ := h1
      exact h2.mono fun e w'' ⟨he, hw'⟩ => by subst he; exact h _ _ hw' hk
  | halt x w' => simp only [Fans] at h1

theorem wpAny_of_fan {n g : Nat} {L : Array Bool → Act → Prop} {Q : Exit → Act → World → Prop}
    (hL : ∀ listed a w, C (listed.getD s false) w → L listed a → wpAny P md ops Q g listed a w) :
    ∀ (f : Nat) (listed : Array Bool) (a : Act) (w : World), listed.size = ops.size → C (listed.getD s false) w → fanHead P md ops s C n L f listed a → wpAny P md ops Q (f + g) listed a w
  | 0, listed, a, w, _, hC, h => by rw [Nat.zero_add]; exact hL _ _ _ hC h
  | f + 1, listed, a, w, hz, hC, h => by
    rw [show f + 1 + g = (f + g) + 1 by omega]
    refine ⟨fun h0 => absurd h0 h.1, fun i hi => ?_⟩
    have hlt := ready_lt hi
    refine wpOp_of_fanAt (b := listed.getD s false) (fun e => ?_) hC (fun a' w' hC' h' => wpAny_of_fan hL f _ a' w' (by simp [hz]) ?_ h') hlt (h.2 i hi).2
    · subst e; exact getD_both (mem_ready.1 hi).1
    · rw [flag_set (by omega)]; exact hC'

/-- Two operations that are apart: the one's value makes no difference to the other. -/
theorem fanAt_put {i j : Nat} {oi oj : Oper} {v : Value} (hj : ops[j]? = some oj) (hap : oi.apart ops oj = true) (hsi : ∀ cs b, oi.op ≠ .select cs b) (hsj : ∀ cs b, oj.op ≠ .select cs b) {K : Act → Prop} {a : Act}
    (hy : Fan P ops s C i oi a v) (h : fanAt P ops s C j K (a.put oi.dst v)) : fanAt P ops s C j (fun a' => Fan P ops s C i oi a' v ∧ K (a'.put oi.dst v)) a := by
  obtain ⟨h1, h2, h3⟩ := Oper.apart_spec hap
  unfold fanAt at *
  simp only [hj] at *
  obtain ⟨u, hu, hk⟩ := h
  refine ⟨u, ?_, ?_, by rw [← Act.put_comm a v u h2]; exact hk⟩
  · unfold Fan at *
    rw [wanted_put oj a oi.dst v h1, execOp_put oj hsj a oi.dst v h1] at hu
    exact hu
  · unfold Fan at *
    rw [wanted_put oi a oj.dst u h3, execOp_put oi hsi a oj.dst u h3]
    exact hy

theorem fan_first {n i : Nat} {oi : Oper} {v : Value} {L : Array Bool → Act → Prop} (hi : ops[i]? = some oi) (hsel : ∀ (j : Nat) (o : Oper) cs b, ops[j]? = some o → o.op ≠ .select cs b)
    (hs : Region.sinkB md ops n = true) (hc : Region.chainB md ops n = true) (hn : n < ops.size) (hin : i < n) (hdone : ∀ listed a, L listed a → ∀ j ∈ Region.ready md ops listed, n ≤ j) :
    ∀ (f : Nat) (listed : Array Bool) (a : Act), HeadInv md ops n listed →
      (∀ j oj, ops[j]? = some oj → j ≠ i → listed.getD j true = false → (∀ e ∈ oj.after, Region.binds md e = true → e.on ≠ i) → oi.apart ops oj = true) →
      i ∈ Region.ready md ops listed → Fan P ops s C i oi a v →
      fanHead P md ops s C n L f (listed.setIfInBounds i true) (a.put oi.dst v) → fanHead P md ops s C n L (f + 1) listed a := by
  intro f
  induction f with
  | zero =>
    intro listed a inv _ hr hy H
    refine ⟨fun h => (by rw [h] at hr; cases hr), fun j hj => ?_⟩
    have hjn : j < n := Nat.lt_of_not_le fun h => absurd hj (tail_waits hs hc hn inv _ i rfl hin (mem_ready.1 hr).1 j h)
    refine ⟨hjn, ?_⟩
    by_cases hji : j = i
    · subst hji
      unfold fanAt
      simp only [hi]
      exact ⟨v, hy, H⟩
    · exact absurd (hdone _ _ H j (ready_mono hj hji)) (by omega)
  | succ f ih =>
    intro listed a inv hfree hr hy H
    have hun := (mem_ready.1 hr).1
    refine ⟨fun h => (by rw [h] at hr; cases hr), fun j hj => ?_⟩
    have hjn : j < n := Nat.lt_of_not_le fun h => absurd hj (tail_waits hs hc hn inv _ i rfl hin hun j h)
    refine ⟨hjn, ?_⟩
    by_cases hji : j = i
    · subst hji
      unfold fanAt
      simp only [hi]
      exact ⟨v, hy, H⟩
    · obtain ⟨hjun, oj, hoj, hall⟩ := mem_ready.1 hj
      have hnot : ∀ e ∈ oj.after, Region.binds md e = true → e.on ≠ i := fun e he hb heq => by
        have h1 := hall e he hb
        rw [heq, getD_both hun] at h1
        cases h1
      have h2 := fanAt_put hoj (hfree j oj hoj hji hjun hnot) (fun cs b => hsel i oi cs b hi) (fun cs b => hsel j oj cs b hoj) hy (H.2 j (ready_mono hj hji)).2
      have hfree' : ∀ k ok, ops[k]? = some ok → k ≠ i → (listed.setIfInBounds j true).getD k true = false → (∀ e ∈ ok.after, Region.binds md e = true → e.on ≠ i) → oi.apart ops ok = true := fun k ok hk hki hu hno => by
        refine hfree k ok hk hki ?_ hno
        by_cases hjk : j = k
        · subst hjk; exact hjun
        · rwa [getD_set_ne true hjk] at hu
      refine fanAt_mono (fun a' h3 => ih (listed.setIfInBounds j true) a' (inv.set hj hjn) hfree' (ready_mono hr (Ne.symm hji)) h3.1 ?_) h2
      rw [Array.setIfInBounds_comm _ _ hji]
      exact h3.2

/-! ### What is asked of a region, by the kernel: each operation waits for earlier ones alone; one that does not wait for an earlier one is apart from it; number n waits for all before it; behind n they wait one for the other. -/
def backB : Nat → List Oper → Bool
  | _, [] => true
  | k, o :: l => o.after.all (fun e => !Region.binds .any e || decide (e.on < k)) && backB (k + 1) l
def freeB (ops : Array Oper) (n : Nat) : Nat → List Oper → Bool
  | _, [] => true
  | k, o :: l => (decide (n ≤ k) || l.all fun p => p.after.any (fun e => Region.binds .any e && e.on == k) || o.apart ops p) && freeB ops n (k + 1) l
def sinkAtB (n : Nat) : Option Oper → Bool
  | none => false
  | some o => (List.range n).all fun i => o.after.any fun e => Region.binds .any e && e.on == i
def fanB (l : List Oper) (n : Nat) : Bool :=
  Region.noSelect l.toArray && decide (n < l.length) && backB 0 l && freeB l.toArray n 0 l && (sinkAtB n l[n]? || Region.sinkB .any l.toArray n) && Region.chainB .any l.toArray n

theorem backB_spec : ∀ (l : List Oper) (k : Nat), backB k l = true → ∀ (j : Nat) (o : Oper), l[j]? = some o → ∀ e ∈ o.after, Region.binds .any e = true → e.on < k + j
  | o :: l, k, h, j, o', ho, e, he, hb => by
    simp only [backB, Bool.and_eq_true] at h
    cases j with
    | zero =>
      obtain rfl : o = o' := by simpa using ho
      have := Array.all_eq_true_iff_forall_mem.1 h.1 e he
      simp only [hb, Bool.not_true, Bool.false_or, decide_eq_true_eq] at this
      omega
    | succ j =>
      have := backB_spec l (k + 1) h.2 j o' (by simpa using ho) e he hb
      omega
  | [], _, _, j, o', ho, _, _, _ => by simp at ho

theorem freeB_spec {n : Nat} : ∀ (l : List Oper) (k : Nat), freeB ops n k l = true → ∀ (i j : Nat) (oi oj : Oper), l[i]? = some oi → l[j]? = some oj → i < j → k + i < n →
    (∃ e ∈ oj.after, Region.binds .any e = true ∧ e.on = k + i) ∨ oi.apart ops oj = true
  | o :: l, k, h, i, j, oi, oj, hi, hj, hij, hn => by
    simp only [freeB, Bool.and_eq_true, Bool.or_eq_true, decide_eq_true_eq] at h
    cases j with
    | zero => omega
    | succ j =>
      have hj' : l[j]? = some oj := by simpa using hj
      cases i with
      | zero =>
        obtain rfl : o = oi := by simpa using hi
        rcases h.1 with h1 | h1
        · omega
        · have h2 := List.all_eq_true.1 h1 oj (List.mem_of_getElem? hj')
          simp only [Bool.or_eq_true] at h2
          rcases h2 with h2 | h2
          · obtain ⟨e, he, hb⟩ := Array.any_eq_true'.1 h2
            simp only [Bool.and_eq_true, beq_iff_eq] at hb
            exact .inl ⟨e, he, hb.1, by omega⟩
          · exact .inr h2
      | succ i =>
        rcases freeB_spec l (k + 1) h.2 i j oi oj (by simpa using hi) hj' (by omega) (by omega) with ⟨e, he, hb, ho⟩ | h2
        · exact .inl ⟨e, he, hb, by omega⟩
        · exact .inr h2
  | [], _, _, i, j, _, _, hi, _, _, _ => by simp at hi

/-- Just the first k operations have come up. -/
def Upto (ops : Array Oper) (k : Nat) (listed : Array Bool) : Prop := listed.size = ops.size ∧ ∀ j, j < ops.size → listed.getD j true = decide (j < k)

theorem Upto.yes {k j : Nat} {listed : Array Bool} (h : Upto ops k listed) (hj : j < ops.size) (hk : j < k) : listed.getD j false = true := by
  have h1 := h.2 j hj
  have hz := h.1
  rw [decide_eq_true hk] at h1
  simpa [show j < listed.size by omega] using h1
theorem Upto.no {k j : Nat} {listed : Array Bool} (h : Upto ops k listed) (hu : listed.getD j false = true) : j < k := by
  have hz := h.1
  by_cases hj : j < ops.size
  · have h1 := h.2 j hj
    have h2 : listed.getD j true = true := by simpa [show j < listed.size by omega] using hu
    rw [h2] at h1
    simpa using h1.symm
  · exfalso
    simp [Array.getElem?_eq_none (show listed.size ≤ j by omega)] at hu
theorem Upto.set {k : Nat} {listed : Array Bool} (h : Upto ops k listed) (hk : k < ops.size) : Upto ops (k + 1) (listed.setIfInBounds k true) := by
  refine ⟨by simp [h.1], fun j hj => ?_⟩
  by_cases e : k = j
  · subst e; have := h.1; simp [show k < listed.size by omega]
  · rw [getD_set_ne true e, h.2 j hj, decide_eq_decide]; omega
theorem Upto.start : Upto ops 0 (Array.replicate ops.size false) := ⟨by simp, fun j hj => by rw [getD_in (by simpa using hj) (getD_replicate_false _ _)]; simp⟩
theorem Upto.flag {k : Nat} {listed : Array Bool} (h : Upto ops k listed) (hk : k ≤ ops.size) : listed.getD s false = decide (s < k) := by
  by_cases e : s < k
  · rw [decide_eq_true e]; exact h.yes (by omega) e
  · rw [decide_eq_false e]
    cases hu : listed.getD s false
    · rfl
    · exact absurd (h.no hu) e

theorem Upto.ready {k : Nat} {listed : Array Bool} (h : Upto ops k listed) (hback : backB 0 ops.toList = true) (hk : k < ops.size) : k ∈ Region.ready .any ops listed := by
  refine mem_ready.2 ⟨by rw [h.2 k hk]; simp, ops[k], Array.getElem?_eq_getElem hk, fun e he hb => ?_⟩
  have := backB_spec _ 0 hback k ops[k] (by simp) e he hb
  exact h.yes (by omega) (by omega)

theorem Upto.head {k n : Nat} {listed : Array Bool} (h : Upto ops k listed) (hback : backB 0 ops.toList = true) (hk : k ≤ n) : HeadInv .any ops n listed :=
  ⟨h.1, fun j oj hj hl e he hb => by
    have h1 := backB_spec _ 0 hback j oj (by simpa using hj) e he hb
    have h2 := h.no hl
    have h3 := (Array.getElem?_eq_some_iff.1 hj).1
    exact h.yes (by omega) (by omega), fun t ht ht' => by rw [h.2 t ht']; simp; omega⟩

theorem fan_lex {n : Nat} {Q : Act → Prop} (hsel : Region.noSelect ops = true) (hback : backB 0 ops.toList = true) (hfr : freeB ops n 0 ops.toList = true) (hs : Region.sinkB .any ops n = true) (hc : Region.chainB .any ops n = true) (hn : n < ops.size) :
    ∀ (l : List Oper) (k : Nat) (listed : Array Bool) (a : Act), (∀ j, j < l.length → l[j]? = ops[k + j]?) → k + l.length = n → Upto ops k listed → Walks P ops s C Q k l a →
    fanHead P .any ops s C n (fun listed' a' => Upto ops n listed' ∧ Q a') l.length listed a
  | [], k, listed, a, _, hk, hu, h => by
    have : k = n := by simpa using hk
    subst this
    exact ⟨hu, h⟩
  | o :: l, k, listed, a, hl, hk, hu, h => by
    have h0 : ops[k]? = some o := by simpa using (hl 0 (by simp)).symm
    have hkn : k < n := by simp only [List.length_cons] at hk; omega
    obtain ⟨v, hy, hK⟩ := h
    refine fan_first h0 (Region.noSelect_spec hsel) hs hc hn hkn (fun listed' a' hL j hj => ?_) l.length listed a (hu.head hback (by omega)) (fun j oj hj hji hun hno => ?_) (hu.ready hback (by omega)) hy
      (fan_lex hsel hback hfr hs hc hn l (k + 1) _ _ (fun j hj => by have := hl (j + 1) (by simp; omega); simpa [Nat.add_assoc, Nat.add_comm 1 j] using this) (by simp only [List.length_cons] at hk; omega) (hu.set (by omega)) hK)
    · have h1 := (mem_ready.1 hj).1
      rw [hL.1.2 j (ready_lt hj)] at h1
      simpa using h1
    · have hjl := (Array.getElem?_eq_some_iff.1 hj).1
      rw [hu.2 j hjl] at hun
      have hkj : k < j := by have : ¬ j < k := by simpa using hun
                             omega
      rcases freeB_spec _ 0 hfr k j o oj (by simpa using h0) (by simpa using hj) hkj (by omega) with ⟨e, he, hb, ho⟩ | h2
      · exact absurd (by omega) (hno e he hb)
      · exact h2

/-- The forced tail. -/
theorem tail_any {n : Nat} {Q : Exit → Act → World → Prop} (hback : backB 0 ops.toList = true) (hc : Region.chainB .any ops n = true) :
    ∀ (l : List Oper) (k : Nat) (listed : Array Bool) (a : Act) (w : World), (∀ j, l[j]? = ops[k + j]?) → n ≤ k → k + l.length = ops.size → Upto ops k listed → wpList P ops Q l a w → wpAny P .any ops Q l.length listed a w
  | [], k, listed, a, w, _, _, hk, hu, h => by
    refine ⟨?_, h⟩
    refine List.eq_nil_iff_forall_not_mem.2 fun j hj => ?_
    have h1 := (mem_ready.1 hj).1
    have h2 := ready_lt hj
    rw [hu.2 j h2] at h1
    simp only [List.length_nil] at hk
    simp at h1; omega
  | o :: l, k, listed, a, w, hl, hnk, hk, hu, h => by
    have h0 : ops[k]? = some o := by simpa using (hl 0).symm
    simp only [List.length_cons] at hk
    have hks : k < ops.size := by omega
    refine ⟨fun h1 => absurd (hu.ready hback hks) (by rw [h1]; simp), fun i hi => ?_⟩
    have hik : i = k := by
      have h1 := (mem_ready.1 hi).1
      have h2 := ready_lt hi
      rw [hu.2 i h2] at h1
      have h3 : ¬ i < k := by simpa using h1
      rcases Nat.lt_or_ge k i with h4 | h4
      · have h5 := List.all_eq_true.1 hc i (List.mem_range.2 h2)
        simp only [Bool.or_eq_true, decide_eq_true_eq] at h5
        rcases h5 with h5 | h5
        · omega
        · obtain ⟨o', ho', e, he, hb, hon⟩ := Region.waitsFor_spec h5
          obtain ⟨_, o2, ho2, hall⟩ := mem_ready.1 hi
          obtain rfl : o' = o2 := Option.some.inj (ho'.symm.trans ho2)
          have h6 := hu.no (hall e he hb)
          omega
      · omega
    subst hik
    have hw : wpOp P ops Q i (wpList P ops Q l) a w := by unfold wpOp; simp only [h0]; exact h
    exact wpOp_mono (fun a' w' h' => tail_any hback hc l (i + 1) _ a' w' (fun j => by have := hl (j + 1); simpa [Nat.add_assoc, Nat.add_comm 1 j] using this) (by omega) (by omega) (hu.set hks) h') hw

theorem wp_region_fan {id : Nat} {Q : Exit → Act → World → Prop} {a : Act} {w : World} {l : List Oper} (n s : Nat) (C : Bool → World → Prop) (hm : P.follows .mixedOrders = true) (hB : fanB l n = true) (hC : C false w.drew)
    (h : Walks P l.toArray s C (fun a' => ∀ w', C (decide (s < n)) w' → wpList P l.toArray Q (l.drop n) a' w') 0 (l.take n) a) : (Code.region id l.toArray true).wp P Q a w := by
  simp only [fanB, Bool.and_eq_true, decide_eq_true_eq] at hB
  obtain ⟨⟨⟨⟨⟨hsel, hn'⟩, hback⟩, hfr⟩, hsk⟩, hc⟩ := hB
  have hn : n < l.toArray.size := by simpa using hn'
  have hs : Region.sinkB .any l.toArray n = true := by
    rw [Bool.or_eq_true] at hsk
    rcases hsk with hsk | hsk
    case inr => exact hsk
    refine List.all_eq_true.2 fun i hi => List.any_eq_true.2 ⟨n, List.mem_range.2 (by omega), ?_⟩
    have hi' := List.mem_range.1 hi
    rw [List.getElem?_eq_getElem hn'] at hsk
    have h1 := List.all_eq_true.1 hsk i hi
    simp only [Bool.and_eq_true, decide_eq_true_eq]
    refine ⟨hi', ?_⟩
    unfold Region.waitsFor
    rw [show l.toArray[n]? = some l[n] by simp [hn']]
    exact h1
  have htl : (l.take n).length = n := by simp; omega
  have H := fan_lex (ops := l.toArray) hsel (by simpa using hback) (by simpa using hfr) hs hc hn (l.take n) 0 _ a (fun j hj => by
    have hj' : j < n := by rw [htl] at hj; exact hj
    simp [hj']) (by simpa using htl) Upto.start h
  refine wp_region_any hm ?_
  have := wpAny_of_fan (Q := Q) (g := l.toArray.size - n) (fun listed a' w' hC' hL => by
    have := tail_any (n := n) (Q := Q) (ops := l.toArray) (by simpa using hback) hc (l.drop n) n listed a' w' (fun j => by simp [List.getElem?_drop]) (Nat.le_refl _) (by simp; omega) hL.1 (hL.2 w' (by rw [← hL.1.flag (Nat.le_of_lt hn)]; exact hC'))
    rwa [show (l.drop n).length = l.toArray.size - n by simp] at this) _ _ _ w.drew (by simp) (by rw [getD_replicate_false]; exact hC) H
  rw [htl, show n + (l.toArray.size - n) = l.toArray.size by omega] at this
  exact this
end

end Go.Proofs.Ytijkoaggcmgjiaa.Co

/- The steps of a walk through a region that draws its order. -/
namespace Go.Proofs.Ytijkoaggcmgjiaa.Co
open Go Go.RowKit
set_option linter.unusedVariables false

/-! ### Frames as functions: a slot's value is found by looking at the last writes -/
def upd (f : Nat → Value) (d : Nat) (v : Value) : Nat → Value := fun i => bif Nat.beq i d then v else f i
def env (f : Nat → Value) : Operand → Value
  | .tmp t => f t
  | .const v => v
  | .global g => .pointer (some ⟨g, 0, none⟩)
  | .func g => .func (.func g) #[] #[]
/-- The frame a has n slots, and they hold f. -/
def Is (a : Act) (n : Nat) (f : Nat → Value) : Prop := a.defers = [] ∧ a.tmps.size = n ∧ ∀ i, a.tmps.getD i undef = f i

theorem upd_at (f : Nat → Value) (d : Nat) (v : Value) : upd f d v d = v := by unfold upd; rw [Nat.beq_refl]; rfl
theorem upd_ne (f : Nat → Value) {d i : Nat} (v : Value) (h : i ≠ d) : upd f d v i = f i := by
  unfold upd
  cases e : Nat.beq i d
  · rfl
  · exact absurd (Nat.eq_of_beq_eq_true e) h
theorem Is.eval {a : Act} {n : Nat} {f : Nat → Value} (h : Is a n f) : a.eval = env f := by
  funext x
  cases x with
  | tmp t => exact h.2.2 t
  | _ => rfl
theorem Is.put {a : Act} {n : Nat} {f : Nat → Value} (h : Is a n f) {d : Nat} (hd : d < n) (v : Value) : Is (a.put (some d) v) n (upd f d v) := by
  refine ⟨h.1, by simpa [Act.put] using h.2.1, fun i => ?_⟩
  by_cases e : i = d
  · subst e
    have := h.2.1
    rw [upd_at]
    simp [Act.put, show i < a.tmps.size by omega]
  · rw [upd_ne _ _ e, ← h.2.2 i]
    simp [Act.put, Array.getElem?_setIfInBounds_ne (Ne.symm e)]
theorem Is.start (tmps : Array Value) {n : Nat} (hn : tmps.size = n) : Is ⟨tmps, []⟩ n fun i => tmps.getD i undef := ⟨rfl, hn, fun _ => rfl⟩
theorem Is.pin {a : Act} {n : Nat} {f : Nat → Value} (h : Is a n f) (d : Nat) {v : Value} (hv : f d = v) : Is a n (upd f d v) := by
  refine ⟨h.1, h.2.1, fun i => ?_⟩
  by_cases e : i = d
  · subst e; rw [upd_at, h.2.2, hv]
  · rw [upd_ne _ _ e, h.2.2]
theorem Is.whole {a : Act} {n : Nat} {f : Nat → Value} (h : Is a n f) : a = ⟨((List.range n).map f).toArray, []⟩ := by
  obtain ⟨tmps, ds⟩ := a
  obtain ⟨h1, h2, h3⟩ := h
  simp only at h1 h2 h3
  subst h1
  congr 1
  refine Array.ext (by simp [h2]) fun i hi1 hi2 => ?_
  have := h3 i
  simp only [Array.getD_eq_getD_getElem?, Array.getElem?_eq_getElem hi1, Option.getD_some] at this
  simp [this]

/-- What a guard looks at. -/
def yieldE (ops : Array Oper) (f : Nat → Value) (j : Nat) : Option Bool := match (ops[j]?).bind (·.dst) with
  | some d => (match f d with
    | .bool b => some b
    | _ => none)
  | none => none
theorem Is.yields {a : Act} {n : Nat} {f : Nat → Value} (h : Is a n f) (ops : Array Oper) : yielded ops a.tmps = yieldE ops f := by
  funext j
  unfold yielded yieldE
  cases (ops[j]?).bind (·.dst) with
  | none => rfl
  | some d =>
    simp only [Option.bind_some]
    rw [← h.2.2 d]
    rw [Array.getD_eq_getD_getElem?]
    cases a.tmps[d]? with
    | none => rfl
    | some v => cases v <;> rfl

section
variable {P : Program} {ops : Array Oper} {s i n : Nat} {C : Bool → World → Prop} {Q : Act → Prop} {K : (Nat → Value) → Prop} {rest : List Oper} {a : Act} {f : Nat → Value} {d : Tmp} {ty : TypeId} {pos : String} {af : Array Edge} {gd : Option (Nat × Bool)} {x y : Operand} {op : Op} {o : Oper}

theorem flag_same (hs : Nat.beq i s = false) {b : Bool} {w : World} (h : C b w) : C (b || i == s) w := by
  have : (i == s) = false := beq_false_of_ne fun e => by subst e; rw [Nat.beq_refl] at hs; cases hs
  rw [this, Bool.or_false]; exact h

/-- One operation, what follows under a name. -/
def Yields (P : Program) (ops : Array Oper) (s : Nat) (C : Bool → World → Prop) (n i : Nat) (o : Oper) (f : Nat → Value) (K : (Nat → Value) → Prop) : Prop :=
  ∃ d v, o.dst = some d ∧ d < n ∧ ((Region.wanted o (yieldE ops f) = true ∧ ∀ b w, (i = s → b = false) → C b w → Fans P (C (b || i == s)) w v ((execOp (env f) o).run P w)) ∨ (Region.wanted o (yieldE ops f) = false ∧ v = undef ∧ i ≠ s)) ∧ K (upd f d v)
/-- The walk, over frames as functions. -/
def WalksE (P : Program) (ops : Array Oper) (s : Nat) (C : Bool → World → Prop) (n : Nat) (Q : Act → Prop) : Nat → List Oper → (Nat → Value) → Prop
  | _, [], f => ∀ a, Is a n f → Q a
  | i, o :: rest, f => Yields P ops s C n i o f (WalksE P ops s C n Q (i + 1) rest)

theorem WalksE.sound : ∀ (l : List Oper) (i : Nat) (f : Nat → Value) (a : Act), WalksE P ops s C n Q i l f → Is a n f → Walks P ops s C Q i l a
  | [], _, _, a, h, ha => h a ha
  | o :: l, i, f, a, h, ha => by
    obtain ⟨d, v, hd, hn, hv, hk⟩ := h
    refine ⟨v, ?_, ?_⟩
    · unfold Fan; rw [ha.eval, ha.yields]; exact hv
    · rw [hd]; exact WalksE.sound l (i + 1) _ _ hk (ha.put hn v)

theorem walks_one (h : ∀ K : (Nat → Value) → Prop, (∀ f, WalksE P ops s C n Q (i + 1) rest f → K f) → Yields P ops s C n i o f K) : WalksE P ops s C n Q i (o :: rest) f := h _ (fun _ h => h)
theorem walks_with (h : ∀ K : Act → Prop, (∀ a, Q a → K a) → WalksE P ops s C n K i rest f) : WalksE P ops s C n Q i rest f := h _ (fun _ h => h)
theorem walks_end (h : ∀ a, Is a n f → Q a) : WalksE P ops s C n Q i [] f := h

/-- An operation that yields a value in whatever world. -/
theorem st_pure {v : Value} (hs : Nat.beq i s = false) (hd : Nat.blt d n = true) (h : ∀ w, (execOp (env f) { dst := some d, op := op, type := ty, pos := pos, after := af, guard := gd }).run P w = .ok (.value v) w) (k : K (upd f d v))
    (hw : Region.wanted { dst := some d, op := op, type := ty, pos := pos, after := af, guard := gd } (yieldE ops f) = true := by exact rfl) : Yields P ops s C n i { dst := some d, op := op, type := ty, pos := pos, after := af, guard := gd } f K :=
  ⟨d, v, rfl, by simpa using hd, .inl ⟨hw, fun b w _ hC => by rw [h w]; exact ⟨flag_same hs hC, rfl⟩⟩, k⟩
/-- An operation whose guard says no. -/
theorem st_skip (hs : Nat.beq i s = false) (hd : Nat.blt d n = true) (hw : Region.wanted { dst := some d, op := op, type := ty, pos := pos, after := af, guard := gd } (yieldE ops f) = false) (k : K (upd f d undef)) : Yields P ops s C n i { dst := some d, op := op, type := ty, pos := pos, after := af, guard := gd } f K :=
  ⟨d, undef, rfl, by simpa using hd, .inr ⟨hw, rfl, fun e => by subst e; rw [Nat.beq_refl] at hs; cases hs⟩, k⟩

theorem run_load_int {ρ : Operand → Value} {w : World} {B j : Nat} {z : Int} {dst : Option Tmp} (hx : ρ x = .pointer (some ⟨B, j, none⟩)) (hc : w.cell? ⟨B, j, none⟩ = some (.int .i64 z)) :
    (execOp ρ { dst := dst, op := .load 3 x, type := ty, pos := pos, after := af, guard := gd }).run Try.prog w = .ok (.value (.int .i64 z)) w := by
  go_simp

theorem st_load {B j : Nat} {z : Int} {c : Array Value} {t : TypeId} (hV : ∀ b w, C b w → Var w B c t) (hs : Nat.beq i s = false) (hd : Nat.blt d n = true) (hx : env f x = .pointer (some ⟨B, j, none⟩)) (hz : c[j]? = some (.int .i64 z)) (k : K (upd f d (.int .i64 z)))
    (hw : Region.wanted { dst := some d, op := .load 3 x, type := ty, pos := pos, after := af, guard := gd } (yieldE ops f) = true := by exact rfl) :
    Yields Try.prog ops s C n i { dst := some d, op := .load 3 x, type := ty, pos := pos, after := af, guard := gd } f K :=
  ⟨d, .int .i64 z, rfl, by simpa using hd, .inl ⟨hw, fun b w _ hC => by rw [run_load_int hx (((hV b w hC).cell j).trans hz)]; exact ⟨flag_same hs hC, rfl⟩⟩, k⟩


/-- A call by its contract. -/
theorem st_call {g : FuncId} {args : Array Value} {r : Value} (hs : Nat.beq i s = false) (hd : Nat.blt d n = true) (hrun : ∀ w, (execOp (env f) { dst := some d, op := op, type := ty, pos := pos, after := af, guard := gd }).run P w = .ok (.enter g args) w)
    (hc : ∀ b w, C b w → Calls P g args w fun e w' => e = .returned r ∧ C b w') (k : K (upd f d r))
    (hw : Region.wanted { dst := some d, op := op, type := ty, pos := pos, after := af, guard := gd } (yieldE ops f) = true := by exact rfl) : Yields P ops s C n i { dst := some d, op := op, type := ty, pos := pos, after := af, guard := gd } f K :=
  ⟨d, r, rfl, by simpa using hd, .inl ⟨hw, fun b w _ hC => by rw [hrun w]; exact ⟨rfl, (hc b w hC).mono fun e w' h => ⟨h.1, flag_same hs h.2⟩⟩⟩, k⟩
end

/-- The worlds that leave the blocks below alone. -/
def Over (W : World) (b : Bool) (w : World) : Prop := Below W.heap.size W w
theorem Over.start (W : World) : Over W false W.drew := (Below.refl _ W).drew
theorem Over.var {W : World} {b : Bool} {w : World} {n : Nat} {c : Array Value} {t : TypeId} (hV : Var W n c t) (h : Over W b w) : Var w n c t := hV.next h
theorem Over.next {W : World} {b : Bool} {w w' : World} (h : Over W b w) (k : Below w.heap.size w w') : Over W b w' := below_next h k


/-- One operation of a forced list, that has run to its end. -/
theorem wpList_skip {P : Program} {ops : Array Oper} {R : Exit → Act → World → Prop} {a : Act} {w w' : World} {o : Oper} {rest : List Oper} (hg : o.guard = none) (hd : o.dst = none) (hr : (execOp a.eval o).run P w = .ok .skip w') (h : wpList P ops R rest a w') : wpList P ops R (o :: rest) a w := by
  refine wpList_step fun K hK => ?_
  have : Region.wanted o (yielded ops a.tmps) = true := by unfold Region.wanted; rw [hg]
  rw [if_pos this]
  unfold Oper.wp
  rw [hr]
  have : a.put o.dst undef = a := by rw [hd]; rfl
  simp only [Oper.upon, this]
  exact hK _ _ h
theorem wpList_value {P : Program} {ops : Array Oper} {R : Exit → Act → World → Prop} {a : Act} {w : World} {o : Oper} {v : Value} {rest : List Oper} (hg : o.guard = none) (hr : (execOp a.eval o).run P w = .ok (.value v) w) (h : wpList P ops R rest (a.put o.dst v) w) : wpList P ops R (o :: rest) a w := by
  refine wpList_step fun K hK => ?_
  have : Region.wanted o (yielded ops a.tmps) = true := by unfold Region.wanted; rw [hg]
  rw [if_pos this]
  unfold Oper.wp
  rw [hr]
  simp only [Oper.upon]
  exact hK _ _ h


/-- The last operation of a region, that yields a value. -/
theorem tailV {P : Program} {ops : Array Oper} {R : Exit → Act → World → Prop} {a : Act} {w : World} {o : Oper} {u : Tmp} {v : Value} (hg : o.guard = none) (hd : o.dst = some u) (hr : (execOp a.eval o).run P w = .ok (.value v) w) (h : R .normal (a.put (some u) v) w) :
    wpList P ops R [o] a w := wpList_value hg hr (by rw [hd]; exact h)
/-- The last write of a region, of a slot. -/
theorem tailB {P : Program} {ops : Array Oper} {R : Exit → Act → World → Prop} {a : Act} {w : World} {x : Operand} {u : Tmp} {ty : TypeId} {pos : String} {af : Array Edge} (h : R .normal (a.put (some u) (a.eval x)) w) :
    wpList P ops R [{ dst := some u, op := .assign x, type := ty, pos := pos, after := af, guard := none }] a w := wpList_value rfl rfl h

section
variable {ρ : Operand → Value} {dst : Option Tmp} {ty : TypeId} {pos : String} {af : Array Edge} {x y : Operand} {w : World} {gd : Option (Nat × Bool)}
theorem run_loadSeg {a : Addr} {s : Sg} (hx : ρ x = .pointer (some a)) (hV : SegAt w a s) :
    (execOp ρ { dst := dst, op := .load 97 x, type := ty, pos := pos, after := af, guard := gd }).run Try.prog w = .ok (.value (seg s)) w := by
  obtain ⟨c0, c1, c2, c3, c4, c5⟩ := hV
  go_simp
theorem run_loadFld {a : Addr} {z : Int} (hx : ρ x = .pointer (some a)) (hV : w.cell? a = some (.int .i64 z)) :
    (execOp ρ { dst := dst, op := .load 3 x, type := ty, pos := pos, after := af, guard := gd }).run Try.prog w = .ok (.value (.int .i64 z)) w := by
  go_simp
theorem run_neSeg {s t : Sg} (hx : ρ x = seg s) (hy : ρ y = seg t) :
    (execOp ρ { dst := dst, op := .binOp .neq 97 x y 97, type := ty, pos := pos, after := af, guard := gd }).run Try.prog w = .ok (.value (.bool (decide (s ≠ t)))) w := by
  by_cases e : s = t
  · subst e
    rw [show decide (s ≠ s) = false by simp]
    go_simp
  · have e' : decide (s ≠ t) = true := by simp [e]
    rw [e']
    by_cases k0 : s.k = t.k
    case neg => go_simp
    by_cases k1 : s.x = t.x
    case neg => go_simp
    by_cases k2 : s.y = t.y
    case neg => go_simp
    by_cases k3 : s.u = t.u
    case neg => go_simp
    by_cases k4 : s.v = t.v
    case neg => go_simp
    by_cases k5 : s.w = t.w
    case neg => go_simp
    exact absurd (Sg.ext' ⟨k0, k1, k2, k3, k4, k5⟩) e
theorem run_eqSeg {s t : Sg} (hx : ρ x = seg s) (hy : ρ y = seg t) :
    (execOp ρ { dst := dst, op := .binOp .eql 97 x y 97, type := ty, pos := pos, after := af, guard := gd }).run Try.prog w = .ok (.value (.bool (decide (s = t)))) w := by
  by_cases e : s = t
  · subst e
    rw [show decide (s = s) = true by simp]
    go_simp
  · have e' : decide (s = t) = false := by simp [e]
    rw [e']
    by_cases k0 : s.k = t.k
    case neg => go_simp
    by_cases k1 : s.x = t.x
    case neg => go_simp
    by_cases k2 : s.y = t.y
    case neg => go_simp
    by_cases k3 : s.u = t.u
    case neg => go_simp
    by_cases k4 : s.v = t.v
    case neg => go_simp
    by_cases k5 : s.w = t.w
    case neg => go_simp
    exact absurd (Sg.ext' ⟨k0, k1, k2, k3, k4, k5⟩) e
theorem run_call1 {P : Program} {g : FuncId} {ts : Array TypeId} (hf : ρ (.func g) = .func (.func g) #[] #[]) (he : Enters P g) :
    (execOp ρ { dst := dst, op := .call { callee := .value (.func g), args := #[x], argTypes := ts }, type := ty, pos := pos, after := af, guard := gd }).run P w = .ok (.enter g #[ρ x]) w := by
  have e : ∀ args w, (callFunc g args).run P w = .ok (.enter g args) w := he
  go_simp
theorem run_call2 {P : Program} {g : FuncId} {ts : Array TypeId} (hf : ρ (.func g) = .func (.func g) #[] #[]) (he : Enters P g) :
    (execOp ρ { dst := dst, op := .call { callee := .value (.func g), args := #[x, y], argTypes := ts }, type := ty, pos := pos, after := af, guard := gd }).run P w = .ok (.enter g #[ρ x, ρ y]) w := by
  have e : ∀ args w, (callFunc g args).run P w = .ok (.enter g args) w := he
  go_simp
end
section
variable {ops : Array Oper} {s i n : Nat} {C : Bool → World → Prop} {K : (Nat → Value) → Prop} {f : Nat → Value} {d : Tmp} {ty : TypeId} {pos : String} {af : Array Edge} {gd : Option (Nat × Bool)} {x y : Operand}
theorem st_loadSeg {a : Addr} {g : Sg} (hV : ∀ b w, C b w → SegAt w a g) (hs : Nat.beq i s = false) (hd : Nat.blt d n = true) (hx : env f x = .pointer (some a)) (k : K (upd f d (seg g)))
    (hw : Region.wanted { dst := some d, op := .load 97 x, type := ty, pos := pos, after := af, guard := gd } (yieldE ops f) = true := by exact rfl) :
    Yields Try.prog ops s C n i { dst := some d, op := .load 97 x, type := ty, pos := pos, after := af, guard := gd } f K :=
  ⟨d, _, rfl, by simpa using hd, .inl ⟨hw, fun b w _ hC => by rw [run_loadSeg hx (hV b w hC)]; exact ⟨flag_same hs hC, rfl⟩⟩, k⟩
theorem st_loadFld {a : Addr} {z : Int} (hV : ∀ b w, C b w → w.cell? a = some (.int .i64 z)) (hs : Nat.beq i s = false) (hd : Nat.blt d n = true) (hx : env f x = .pointer (some a)) (k : K (upd f d (.int .i64 z)))
    (hw : Region.wanted { dst := some d, op := .load 3 x, type := ty, pos := pos, after := af, guard := gd } (yieldE ops f) = true := by exact rfl) :
    Yields Try.prog ops s C n i { dst := some d, op := .load 3 x, type := ty, pos := pos, after := af, guard := gd } f K :=
  ⟨d, _, rfl, by simpa using hd, .inl ⟨hw, fun b w _ hC => by rw [run_loadFld hx (hV b w hC)]; exact ⟨flag_same hs hC, rfl⟩⟩, k⟩
end
theorem Over.seg {W : World} {b : Bool} {w : World} {a : Addr} {s : Sg} (hV : SegAt W a s) (hl : a.block < W.heap.size) (h : Over W b w) : SegAt w a s := hV.below h hl
theorem Var.segAt {w : World} {b : Nat} {s : Sg} {t : TypeId} (h : Var w b (cel s) t) : SegAt w ⟨b, 0, none⟩ s :=
  ⟨h.cell 0, (h.cell (0 + 1)), (h.cell (0 + 2)), (h.cell (0 + 3)), (h.cell (0 + 4)), (h.cell (0 + 5))⟩

end Go.Proofs.Ytijkoaggcmgjiaa.Co

/- A region in the order of the text, an operation a step, its frame a function. -/
namespace Go.Proofs.Ytijkoaggcmgjiaa.Co
open Go Go.RowKit
set_option linter.unusedVariables false
set_option linter.unusedSimpArgs false

section
variable {P : Program} {ops : Array Oper} {R : Exit → Act → World → Prop} {rest : List Oper} {a : Act} {f : Nat → Value} {n : Nat} {w w' : World}
theorem sq_start {tmps : Array Value} {l : List Oper} (hn : tmps.size = n) (k : ∀ a, Is a n (fun i => tmps.getD i undef) → wpList P ops R l a w) : wpList P ops R l ⟨tmps, []⟩ w := k _ (Is.start _ hn)
theorem sq_val {d : Tmp} {v : Value} {op : Op} {ty : TypeId} {pos : String} {af : Array Edge} (ha : Is a n f) (hlt : Nat.blt d n = true) (h : (execOp (env f) { dst := some d, op := op, type := ty, pos := pos, after := af, guard := none }).run P w = .ok (.value v) w')
    (k : ∀ a', Is a' n (upd f d v) → wpList P ops R rest a' w') : wpList P ops R ({ dst := some d, op := op, type := ty, pos := pos, after := af, guard := none } :: rest) a w := by
  refine wpList_plain rfl fun K hK => ?_
  unfold Oper.wp
  rw [ha.eval, h]
  exact hK _ _ (k _ (ha.put (by simpa using hlt) v))
theorem sq_skip {op : Op} {ty : TypeId} {pos : String} {af : Array Edge} (ha : Is a n f) (h : (execOp (env f) { dst := none, op := op, type := ty, pos := pos, after := af, guard := none }).run P w = .ok .skip w')
    (k : ∀ a', Is a' n f → wpList P ops R rest a' w') : wpList P ops R ({ dst := none, op := op, type := ty, pos := pos, after := af, guard := none } :: rest) a w := by
  refine wpList_plain rfl fun K hK => ?_
  unfold Oper.wp
  rw [ha.eval, h]
  exact hK _ _ (k _ ha)
theorem sq_call {d : Tmp} {v : Value} {op : Op} {ty : TypeId} {pos : String} {af : Array Edge} {g : FuncId} {args : Array Value} {G : Value → World → Prop} (ha : Is a n f) (hlt : Nat.blt d n = true) (h : (execOp (env f) { dst := some d, op := op, type := ty, pos := pos, after := af, guard := none }).run P w = .ok (.enter g args) w)
    (hc : Calls P g args w fun e w' => ∃ v, e = .returned v ∧ G v w')
    (k : ∀ v w' a', G v w' → Is a' n (upd f d v) → wpList P ops R rest a' w') : wpList P ops R ({ dst := some d, op := op, type := ty, pos := pos, after := af, guard := none } :: rest) a w := by
  refine wpList_plain rfl fun K hK => ?_
  unfold Oper.wp
  rw [ha.eval, h]
  refine hc.mono ?_
  rintro e w' ⟨v, rfl, hv⟩
  exact hK _ _ (k v w' _ hv (ha.put (by simpa using hlt) v))
end

section
variable {ρ : Operand → Value} {dst : Option Tmp} {ty : TypeId} {pos : String} {af : Array Edge} {x y : Operand} {w : World} {gd : Option (Nat × Bool)}
theorem run_min {i j : Int} (hx : ρ x = .int .i64 i) (hy : ρ y = .int .i64 j) :
    (execOp ρ { dst := dst, op := .call { callee := .builtin .min, args := #[x, y], argTypes := #[3, 3] }, type := ty, pos := pos, after := af, guard := gd }).run Try.prog w = .ok (.value (.int .i64 (min i j))) w := by
  go_simp
  split <;> omega
theorem run_max {i j : Int} (hx : ρ x = .int .i64 i) (hy : ρ y = .int .i64 j) :
    (execOp ρ { dst := dst, op := .call { callee := .builtin .max, args := #[x, y], argTypes := #[3, 3] }, type := ty, pos := pos, after := af, guard := gd }).run Try.prog w = .ok (.value (.int .i64 (max i j))) w := by
  go_simp
  split <;> omega
theorem run_fldP0 {n : Nat} (hx : ρ x = .pointer (some ⟨n, 0, none⟩)) :
    (execOp ρ { dst := dst, op := .fieldAddr 40 x 0, type := ty, pos := pos, after := af, guard := gd }).run Try.prog w = .ok (.value (.pointer (some ⟨n, 0, none⟩))) w := by
  go_simp
theorem run_fldP1 {n : Nat} (hx : ρ x = .pointer (some ⟨n, 0, none⟩)) :
    (execOp ρ { dst := dst, op := .fieldAddr 40 x 1, type := ty, pos := pos, after := af, guard := gd }).run Try.prog w = .ok (.value (.pointer (some ⟨n, 1, none⟩))) w := by
  go_simp
theorem run_buildP {i j : Int} (hx : ρ x = .int .i64 i) (hy : ρ y = .int .i64 j) :
    (execOp ρ { dst := dst, op := .build 40 #[(0, x), (1, y)], type := ty, pos := pos, after := af, guard := gd }).run Try.prog w = .ok (.value (pt i j)) w := by
  go_simp
end

end Go.Proofs.Ytijkoaggcmgjiaa.Co

/- A region that draws its order, all of whose operations but a forced tail keep a class of worlds: one walk in the order of the text serves every order. Some of the operations, in the order of the list s, each move the worlds from one class to the next (a new block, a store, an append). -/
namespace Go.Proofs.Ytijkoaggcmgjiaa.Co.F2
open Go Go.RowKit
set_option linter.unusedVariables false

section
variable {P : Program} {ops : Array Oper} {md : Region.Mode} {s : List Nat} {C : Nat → World → Prop}

/-- What an operation's run has to be: the value v, and a world of the class K. -/
def Fans (P : Program) (K : World → Prop) (w : World) (v : Value) : Result Next → Prop
  | .ok (.value u) w' => K w' ∧ u = v
  | .ok .skip w' => K w' ∧ v = undef
  | .ok (.enter f args) w' => w' = w ∧ Calls P f args w fun e w'' => e = .returned v ∧ K w''
  | _ => False

def step (s : List Nat) (i b : Nat) : Nat := if i ∈ s then b + 1 else b
/-- How many of the list's first operations have come up. -/
def lvl (f : Nat → Bool) : List Nat → Nat
  | [] => 0
  | i :: r => bif f i then lvl f r + 1 else 0
theorem lvl_eq (f : Nat → Bool) : ∀ (s : List Nat) (k : Nat), k ≤ s.length → (∀ j i, j < k → s[j]? = some i → f i = true) → (∀ i, s[k]? = some i → f i = false) → lvl f s = k
  | [], k, hk, _, _ => by simp at hk; subst hk; rfl
  | i :: r, 0, _, _, h => by simp only [lvl]; rw [h i rfl]; rfl
  | i :: r, k + 1, hk, h1, h2 => by
    simp only [lvl]
    rw [h1 0 i (by omega) rfl, lvl_eq f r k (by simpa using hk) (fun j i' hj hi' => h1 (j + 1) i' (by omega) (by simpa using hi')) (fun i' hi' => h2 i' (by simpa using hi'))]
    rfl
theorem lvl_congr {f g : Nat → Bool} : ∀ (s : List Nat), (∀ i ∈ s, f i = g i) → lvl f s = lvl g s
  | [], _ => rfl
  | i :: r, h => by simp only [lvl]; rw [h i (by simp), lvl_congr r fun j hj => h j (by simp [hj])]
/-- Operation number i yields v in every world of the class in which it may come up; or its guard says no. -/
def Fan (P : Program) (ops : Array Oper) (s : List Nat) (C : Nat → World → Prop) (i : Nat) (o : Oper) (a : Act) (v : Value) : Prop :=
  (Region.wanted o (yielded ops a.tmps) = true ∧ ∀ b w, (i ∈ s → s[b]? = some i) → C b w → Fans P (C (step s i b)) w v ((execOp a.eval o).run P w)) ∨
  (Region.wanted o (yielded ops a.tmps) = false ∧ v = undef ∧ i ∉ s)

/-- The walk in the order of the text, from operation number i on. -/
def Walks (P : Program) (ops : Array Oper) (s : List Nat) (C : Nat → World → Prop) (Q : Act → Prop) : Nat → List Oper → Act → Prop
  | _, [], a => Q a
  | i, o :: rest, a => ∃ v, Fan P ops s C i o a v ∧ Walks P ops s C Q (i + 1) rest (a.put o.dst v)

def fanAt (P : Program) (ops : Array Oper) (s : List Nat) (C : Nat → World → Prop) (i : Nat) (K : Act → Prop) (a : Act) : Prop :=
  match ops[i]? with
  | none => K a
  | some o => ∃ v, Fan P ops s C i o a v ∧ K (a.put o.dst v)

theorem fanAt_mono {i : Nat} {a : Act} {K K' : Act → Prop} (h : ∀ a, K a → K' a) (hh : fanAt P ops s C i K a) : fanAt P ops s C i K' a := by
  unfold fanAt at *
  cases ho : ops[i]? with
  | none => simp only [ho] at hh ⊢; exact h _ hh
  | some o => simp only [ho] at hh ⊢; exact ⟨hh.choose, hh.choose_spec.1, h _ hh.choose_spec.2⟩

/-- Whatever order is picked while the first n operations come up. -/
def fanHead (P : Program) (md : Region.Mode) (ops : Array Oper) (s : List Nat) (C : Nat → World → Prop) (n : Nat) (L : Array Bool → Act → Prop) : Nat → Array Bool → Act → Prop
  | 0, listed, a => L listed a
  | f + 1, listed, a => Region.ready md ops listed ≠ [] ∧ ∀ i ∈ Region.ready md ops listed, i < n ∧ fanAt P ops s C i (fanHead P md ops s C n L f (listed.setIfInBounds i true)) a

theorem ready_lt {i : Nat} {listed : Array Bool} (h : i ∈ Region.ready md ops listed) : i < ops.size := by
  obtain ⟨_, o, ho, _⟩ := mem_ready.1 h
  exact (Array.getElem?_eq_some_iff.1 ho).1

/-- The list's operations are ahead of number n, rise, and each waits for the one before. -/
def spB (ops : Array Oper) (n : Nat) (s : List Nat) : Bool :=
  s.all (fun i => decide (i < n)) && (List.range s.length).all fun k => match s[k]?, s[k + 1]? with
    | some i, some j => decide (i < j) && (match ops[j]? with
      | some o => o.after.any fun e => Region.binds .any e && e.on == i
      | none => false)
    | _, _ => true
theorem spB_lt {n : Nat} (h : spB ops n s = true) {i : Nat} (hi : i ∈ s) : i < n := by
  simp only [spB, Bool.and_eq_true] at h
  simpa using List.all_eq_true.1 h.1 i hi
theorem spB_next {n k i j : Nat} (h : spB ops n s = true) (hi : s[k]? = some i) (hj : s[k + 1]? = some j) : i < j ∧ ∃ o, ops[j]? = some o ∧ ∃ e ∈ o.after, Region.binds .any e = true ∧ e.on = i := by
  simp only [spB, Bool.and_eq_true] at h
  have hk : k < s.length := (List.getElem?_eq_some_iff.1 hi).1
  have h1 := List.all_eq_true.1 h.2 k (List.mem_range.2 hk)
  simp only [hi, hj, Bool.and_eq_true, decide_eq_true_eq] at h1
  refine ⟨h1.1, ?_⟩
  have h2 := h1.2
  cases ho : ops[j]? with
  | none => rw [ho] at h2; cases h2
  | some o =>
    rw [ho] at h2
    obtain ⟨e, he, hb⟩ := Array.any_eq_true'.1 h2
    simp only [Bool.and_eq_true, beq_iff_eq] at hb
    exact ⟨o, rfl, e, he, hb.1, hb.2⟩
theorem spB_rise {n : Nat} (h : spB ops n s = true) : ∀ (d k i j : Nat), s[k]? = some i → s[k + d + 1]? = some j → i < j
  | 0, k, i, j, hi, hj => (spB_next h hi hj).1
  | d + 1, k, i, j, hi, hj => by
    have hl := (List.getElem?_eq_some_iff.1 hj).1
    have hm : s[k + d + 1]? = some s[k + d + 1] := List.getElem?_eq_getElem (by omega)
    have h1 := spB_rise h d k i _ hi hm
    have h2 := (spB_next h hm hj).1
    omega

def Closed (ops : Array Oper) (listed : Array Bool) : Prop := ∀ j oj, ops[j]? = some oj → listed.getD j false = true → ∀ e ∈ oj.after, Region.binds .any e = true → listed.getD e.on false = true
theorem Closed.set {listed : Array Bool} (h : Closed ops listed) {i : Nat} (hi : i ∈ Region.ready .any ops listed) : Closed ops (listed.setIfInBounds i true) := by
  intro j oj hj hl e he hb
  have up : ∀ k, listed.getD k false = true → (listed.setIfInBounds i true).getD k false = true := fun k hk => by
    by_cases e : i = k
    · subst e
      by_cases hz : i < listed.size
      · simp [hz]
      · simp [Array.getElem?_eq_none (show listed.size ≤ i by omega)] at hk
    · rw [getD_set_ne false e]; exact hk
  by_cases e' : i = j
  · subst e'
    obtain ⟨_, o, ho, hall⟩ := mem_ready.1 hi
    obtain rfl : o = oj := Option.some.inj (ho.symm.trans hj)
    exact up _ (hall e he hb)
  · rw [getD_set_ne false e'] at hl
    exact up _ (h j oj hj hl e he hb)
theorem Closed.down {n : Nat} {listed : Array Bool} (h : Closed ops listed) (hs : spB ops n s = true) : ∀ (d k i j : Nat), s[k]? = some i → s[k + d]? = some j → listed.getD j false = true → listed.getD i false = true
  | 0, k, i, j, hi, hj, hl => by rw [Nat.add_zero] at hj; rw [hi] at hj; cases hj; exact hl
  | d + 1, k, i, j, hi, hj, hl => by
    have hlt := (List.getElem?_eq_some_iff.1 hj).1
    have hm : s[k + d]? = some s[k + d] := List.getElem?_eq_getElem (by omega)
    obtain ⟨-, o, ho, e, he, hb, hon⟩ := spB_next hs hm (by rw [Nat.add_assoc]; exact hj)
    have h1 := h j o ho hl e he hb
    rw [hon] at h1
    exact Closed.down h hs d k i _ hi hm h1

/-- The level at an operation of the list that may come up now. -/
theorem lvl_at {n k i : Nat} {listed : Array Bool} (h : Closed ops listed) (hs : spB ops n s = true) (hk : s[k]? = some i) (hi : i ∈ Region.ready .any ops listed) (hz : listed.size = ops.size) :
    lvl (fun j => listed.getD j false) s = k ∧ lvl (fun j => (listed.setIfInBounds i true).getD j false) s = k + 1 := by
  have hkl := (List.getElem?_eq_some_iff.1 hk).1
  have hun : listed.getD i false = false := getD_both (mem_ready.1 hi).1
  have hlow : ∀ j i', j < k → s[j]? = some i' → listed.getD i' false = true := fun j i' hj hi' => by
    obtain ⟨d, rfl⟩ : ∃ d, k = j + d + 1 := ⟨k - j - 1, by omega⟩
    have hm : s[j + d]? = some s[j + d] := List.getElem?_eq_getElem (by omega)
    obtain ⟨-, o, ho, e, he, hb, hon⟩ := spB_next hs hm hk
    obtain ⟨_, o', ho', hall⟩ := mem_ready.1 hi
    obtain rfl : o = o' := Option.some.inj (ho.symm.trans ho')
    have h1 := hall e he hb
    rw [hon] at h1
    exact h.down hs d j i' _ hi' hm h1
  refine ⟨lvl_eq _ s k (by omega) hlow (fun i' hi' => by rw [hk] at hi'; cases hi'; exact hun), lvl_eq _ s (k + 1) (by omega) (fun j i' hj hi' => ?_) (fun i' hi' => ?_)⟩
  · by_cases e : j = k
    · subst e
      rw [hk] at hi'
      cases hi'
      have : i < listed.size := by rw [hz]; exact ready_lt hi
      simp [this]
    · have h1 := hlow j i' (by omega) hi'
      have hne : i ≠ i' := fun e => by subst e; rw [hun] at h1; cases h1
      show (listed.setIfInBounds i true).getD i' false = true
      rw [getD_set_ne false hne]
      exact h1
  · have hne : i ≠ i' := fun e => by have := (spB_next hs hk hi').1; omega
    show (listed.setIfInBounds i true).getD i' false = false
    rw [getD_set_ne false hne]
    cases hl : listed.getD i' false
    · rfl
    · have := h.down hs 1 k i i' hk hi' hl
      rw [hun] at this
      cases this

theorem wpOp_of_fanAt {i : Nat} {a : Act} {w : World} {b : Nat} {K : Act → Prop} {K' : Act → World → Prop} {Q : Exit → Act → World → Prop} (hb : i ∈ s → s[b]? = some i) (hC : C b w)
    (h : ∀ a w', C (step s i b) w' → K a → K' a w') (hn : i < ops.size) (hh : fanAt P ops s C i K a) : wpOp P ops Q i K' a w := by
  have ho : ops[i]? = some ops[i] := Array.getElem?_eq_getElem hn
  unfold fanAt at hh
  simp only [ho] at hh
  obtain ⟨v, hv, hk⟩ := hh
  unfold wpOp
  simp only [ho]
  rcases hv with ⟨hw, hv⟩ | ⟨hw, rfl, hne⟩
  case inr =>
    rw [if_neg (by rw [hw]; exact Bool.false_ne_true)]
    exact h _ _ (by rw [step, if_neg hne]; exact hC) hk
  rw [if_pos hw]
  refine .inl ?_
  have h1 := hv b w hb hC
  unfold Oper.wp
  generalize (execOp a.eval ops[i]).run P w = r at h1
  cases r with
  | ok n w' =>
    cases n <;> simp only [Fans] at h1 <;> simp only [Oper.upon]
    case value u =>
      obtain ⟨h2, rfl⟩ := h1
      exact h _ _ h2 hk
    case skip =>
      obtain ⟨h2, rfl⟩ := h1
      exact h _ _ h2 hk
    case enter f args =>
      obtain ⟨rfl, h2⟩ := h1
      exact h2.mono fun e w'' ⟨he, hw'⟩ => by subst he; exact h _ _ hw' hk
  | halt x w' => simp only [Fans] at h1

theorem wpAny_of_fan {n g m : Nat} {L : Array Bool → Act → Prop} {Q : Exit → Act → World → Prop} (hs : spB ops m s = true)
    (hL : ∀ listed a w, C (lvl (fun j => listed.getD j false) s) w → L listed a → wpAny P .any ops Q g listed a w) :
    ∀ (f : Nat) (listed : Array Bool) (a : Act) (w : World), listed.size = ops.size → Closed ops listed → C (lvl (fun j => listed.getD j false) s) w → fanHead P .any ops s C n L f listed a → wpAny P .any ops Q (f + g) listed a w
  | 0, listed, a, w, _, _, hC, h => by rw [Nat.zero_add]; exact hL _ _ _ hC h
  | f + 1, listed, a, w, hz, hcl, hC, h => by
    rw [show f + 1 + g = (f + g) + 1 by omega]
    refine ⟨fun h0 => absurd h0 h.1, fun i hi => ?_⟩
    have hlt := ready_lt hi
    refine wpOp_of_fanAt (b := lvl (fun j => listed.getD j false) s) (fun e => ?_) hC (fun a' w' hC' h' => wpAny_of_fan hs hL f _ a' w' (by simp [hz]) (hcl.set hi) ?_ h') hlt (h.2 i hi).2
    · obtain ⟨k, hk⟩ := List.getElem?_of_mem e
      rw [(lvl_at hcl hs hk hi hz).1]
      exact hk
    · by_cases e : i ∈ s
      · obtain ⟨k, hk⟩ := List.getElem?_of_mem e
        obtain ⟨e1, e2⟩ := lvl_at hcl hs hk hi hz
        rw [step, if_pos e, e1] at hC'
        rw [e2]
        exact hC'
      · rw [step, if_neg e] at hC'
        rw [lvl_congr (f := fun j => (listed.setIfInBounds i true).getD j false) (g := fun j => listed.getD j false) s fun j hj => getD_set_ne false fun h => e (h ▸ hj)]
        exact hC'

/-- Two operations that are apart: the one's value makes no difference to the other. -/
theorem fanAt_put {i j : Nat} {oi oj : Oper} {v : Value} (hj : ops[j]? = some oj) (hap : oi.apart ops oj = true) (hsi : ∀ cs b, oi.op ≠ .select cs b) (hsj : ∀ cs b, oj.op ≠ .select cs b) {K : Act → Prop} {a : Act}
    (hy : Fan P ops s C i oi a v) (h : fanAt P ops s C j K (a.put oi.dst v)) : fanAt P ops s C j (fun a' => Fan P ops s C i oi a' v ∧ K (a'.put oi.dst v)) a := by
  obtain ⟨h1, h2, h3⟩ := Oper.apart_spec hap
  unfold fanAt at *
  simp only [hj] at *
  obtain ⟨u, hu, hk⟩ := h
  refine ⟨u, ?_, ?_, by rw [← Act.put_comm a v u h2]; exact hk⟩
  · unfold Fan at *
    rw [wanted_put oj a oi.dst v h1, execOp_put oj hsj a oi.dst v h1] at hu
    exact hu
  · unfold Fan at *
    rw [wanted_put oi a oj.dst u h3, execOp_put oi hsi a oj.dst u h3]
    exact hy

theorem fan_first {n i : Nat} {oi : Oper} {v : Value} {L : Array Bool → Act → Prop} (hi : ops[i]? = some oi) (hsel : ∀ (j : Nat) (o : Oper) cs b, ops[j]? = some o → o.op ≠ .select cs b)
    (hs : Region.sinkB md ops n = true) (hc : Region.chainB md ops n = true) (hn : n < ops.size) (hin : i < n) (hdone : ∀ listed a, L listed a → ∀ j ∈ Region.ready md ops listed, n ≤ j) :
    ∀ (f : Nat) (listed : Array Bool) (a : Act), HeadInv md ops n listed →
      (∀ j oj, ops[j]? = some oj → j ≠ i → listed.getD j true = false → (∀ e ∈ oj.after, Region.binds md e = true → e.on ≠ i) → oi.apart ops oj = true) →
      i ∈ Region.ready md ops listed → Fan P ops s C i oi a v →
      fanHead P md ops s C n L f (listed.setIfInBounds i true) (a.put oi.dst v) → fanHead P md ops s C n L (f + 1) listed a := by
  intro f
  induction f with
  | zero =>
    intro listed a inv _ hr hy H
    refine ⟨fun h => (by rw [h] at hr; cases hr), fun j hj => ?_⟩
    have hjn : j < n := Nat.lt_of_not_le fun h => absurd hj (tail_waits hs hc hn inv _ i rfl hin (mem_ready.1 hr).1 j h)
    refine ⟨hjn, ?_⟩
    by_cases hji : j = i
    · subst hji
      unfold fanAt
      simp only [hi]
      exact ⟨v, hy, H⟩
    · exact absurd (hdone _ _ H j (ready_mono hj hji)) (by omega)
  | succ f ih =>
    intro listed a inv hfree hr hy H
    have hun := (mem_ready.1 hr).1
    refine ⟨fun h => (by rw [h] at hr; cases hr), fun j hj => ?_⟩
    have hjn : j < n := Nat.lt_of_not_le fun h => absurd hj (tail_waits hs hc hn inv _ i rfl hin hun j h)
    refine ⟨hjn, ?_⟩
    by_cases hji : j = i
    · subst hji
      unfold fanAt
      simp only [hi]
      exact ⟨v, hy, H⟩
    · obtain ⟨hjun, oj, hoj, hall⟩ := mem_ready.1 hj
      have hnot : ∀ e ∈ oj.after, Region.binds md e = true → e.on ≠ i := fun e he hb heq => by
        have h1 := hall e he hb
        rw [heq, getD_both hun] at h1
        cases h1
      have h2 := fanAt_put hoj (hfree j oj hoj hji hjun hnot) (fun cs b => hsel i oi cs b hi) (fun cs b => hsel j oj cs b hoj) hy (H.2 j (ready_mono hj hji)).2
      have hfree' : ∀ k ok, ops[k]? = some ok → k ≠ i → (listed.setIfInBounds j true).getD k true = false → (∀ e ∈ ok.after, Region.binds md e = true → e.on ≠ i) → oi.apart ops ok = true := fun k ok hk hki hu hno => by
        refine hfree k ok hk hki ?_ hno
        by_cases hjk : j = k
        · subst hjk; exact hjun
        · rwa [getD_set_ne true hjk] at hu
      refine fanAt_mono (fun a' h3 => ih (listed.setIfInBounds j true) a' (inv.set hj hjn) hfree' (ready_mono hr (Ne.symm hji)) h3.1 ?_) h2
      rw [Array.setIfInBounds_comm _ _ hji]
      exact h3.2

/-! ### What is asked of a region, by the kernel: each operation waits for earlier ones alone; one that does not wait for an earlier one is apart from it; number n waits for all before it; behind n they wait one for the other. -/
def backB : Nat → List Oper → Bool
  | _, [] => true
  | k, o :: l => o.after.all (fun e => !Region.binds .any e || decide (e.on < k)) && backB (k + 1) l
def freeB (ops : Array Oper) (n : Nat) : Nat → List Oper → Bool
  | _, [] => true
  | k, o :: l => (decide (n ≤ k) || l.all fun p => p.after.any (fun e => Region.binds .any e && e.on == k) || o.apart ops p) && freeB ops n (k + 1) l
def sinkAtB (n : Nat) : Option Oper → Bool
  | none => false
  | some o => (List.range n).all fun i => o.after.any fun e => Region.binds .any e && e.on == i
def fanB (l : List Oper) (n : Nat) : Bool :=
  Region.noSelect l.toArray && decide (n < l.length) && backB 0 l && freeB l.toArray n 0 l && (sinkAtB n l[n]? || Region.sinkB .any l.toArray n) && Region.chainB .any l.toArray n

theorem backB_spec : ∀ (l : List Oper) (k : Nat), backB k l = true → ∀ (j : Nat) (o : Oper), l[j]? = some o → ∀ e ∈ o.after, Region.binds .any e = true → e.on < k + j
  | o :: l, k, h, j, o', ho, e, he, hb => by
    simp only [backB, Bool.and_eq_true] at h
    cases j with
    | zero =>
      obtain rfl : o = o' := by simpa using ho
      have := Array.all_eq_true_iff_forall_mem.1 h.1 e he
      simp only [hb, Bool.not_true, Bool.false_or, decide_eq_true_eq] at this
      omega
    | succ j =>
      have := backB_spec l (k + 1) h.2 j o' (by simpa using ho) e he hb
      omega
  | [], _, _, j, o', ho, _, _, _ => by simp at ho

theorem freeB_spec {n : Nat} : ∀ (l : List Oper) (k : Nat), freeB ops n k l = true → ∀ (i j : Nat) (oi oj : Oper), l[i]? = some oi → l[j]? = some oj → i < j → k + i < n →
    (∃ e ∈ oj.after, Region.binds .any e = true ∧ e.on = k + i) ∨ oi.apart ops oj = true
  | o :: l, k, h, i, j, oi, oj, hi, hj, hij, hn => by
    simp only [freeB, Bool.and_eq_true, Bool.or_eq_true, decide_eq_true_eq] at h
    cases j with
    | zero => omega
    | succ j =>
      have hj' : l[j]? = some oj := by simpa using hj
      cases i with
      | zero =>
        obtain rfl : o = oi := by simpa using hi
        rcases h.1 with h1 | h1
        · omega
        · have h2 := List.all_eq_true.1 h1 oj (List.mem_of_getElem? hj')
          simp only [Bool.or_eq_true] at h2
          rcases h2 with h2 | h2
          · obtain ⟨e, he, hb⟩ := Array.any_eq_true'.1 h2
            simp only [Bool.and_eq_true, beq_iff_eq] at hb
            exact .inl ⟨e, he, hb.1, by omega⟩
          · exact .inr h2
      | succ i =>
        rcases freeB_spec l (k + 1) h.2 i j oi oj (by simpa using hi) hj' (by omega) (by omega) with ⟨e, he, hb, ho⟩ | h2
        · exact .inl ⟨e, he, hb, by omega⟩
        · exact .inr h2
  | [], _, _, i, j, _, _, hi, _, _, _ => by simp at hi

/-- Just the first k operations have come up. -/
def Upto (ops : Array Oper) (k : Nat) (listed : Array Bool) : Prop := listed.size = ops.size ∧ ∀ j, j < ops.size → listed.getD j true = decide (j < k)

theorem Upto.yes {k j : Nat} {listed : Array Bool} (h : Upto ops k listed) (hj : j < ops.size) (hk : j < k) : listed.getD j false = true := by
  have h1 := h.2 j hj
  have hz := h.1
  rw [decide_eq_true hk] at h1
  simpa [show j < listed.size by omega] using h1
theorem Upto.no {k j : Nat} {listed : Array Bool} (h : Upto ops k listed) (hu : listed.getD j false = true) : j < k := by
  have hz := h.1
  by_cases hj : j < ops.size
  · have h1 := h.2 j hj
    have h2 : listed.getD j true = true := by simpa [show j < listed.size by omega] using hu
    rw [h2] at h1
    simpa using h1.symm
  · exfalso
    simp [Array.getElem?_eq_none (show listed.size ≤ j by omega)] at hu
theorem Upto.set {k : Nat} {listed : Array Bool} (h : Upto ops k listed) (hk : k < ops.size) : Upto ops (k + 1) (listed.setIfInBounds k true) := by
  refine ⟨by simp [h.1], fun j hj => ?_⟩
  by_cases e : k = j
  · subst e; have := h.1; simp [show k < listed.size by omega]
  · rw [getD_set_ne true e, h.2 j hj, decide_eq_decide]; omega
theorem Upto.start : Upto ops 0 (Array.replicate ops.size false) := ⟨by simp, fun j hj => by rw [getD_in (by simpa using hj) (getD_replicate_false _ _)]; simp⟩
theorem Upto.flag {k : Nat} {listed : Array Bool} (h : Upto ops k listed) (hk : k ≤ ops.size) (hs : spB ops k s = true) : lvl (fun j => listed.getD j false) s = s.length :=
  lvl_eq _ s _ (Nat.le_refl _) (fun j i hj hi => h.yes (by have := spB_lt hs (List.mem_of_getElem? hi); omega) (spB_lt hs (List.mem_of_getElem? hi))) (fun i hi => by simp at hi)

theorem Upto.ready {k : Nat} {listed : Array Bool} (h : Upto ops k listed) (hback : backB 0 ops.toList = true) (hk : k < ops.size) : k ∈ Region.ready .any ops listed := by
  refine mem_ready.2 ⟨by rw [h.2 k hk]; simp, ops[k], Array.getElem?_eq_getElem hk, fun e he hb => ?_⟩
  have := backB_spec _ 0 hback k ops[k] (by simp) e he hb
  exact h.yes (by omega) (by omega)

theorem Upto.head {k n : Nat} {listed : Array Bool} (h : Upto ops k listed) (hback : backB 0 ops.toList = true) (hk : k ≤ n) : HeadInv .any ops n listed :=
  ⟨h.1, fun j oj hj hl e he hb => by
    have h1 := backB_spec _ 0 hback j oj (by simpa using hj) e he hb
    have h2 := h.no hl
    have h3 := (Array.getElem?_eq_some_iff.1 hj).1
    exact h.yes (by omega) (by omega), fun t ht ht' => by rw [h.2 t ht']; simp; omega⟩

theorem fan_lex {n : Nat} {Q : Act → Prop} (hsel : Region.noSelect ops = true) (hback : backB 0 ops.toList = true) (hfr : freeB ops n 0 ops.toList = true) (hs : Region.sinkB .any ops n = true) (hc : Region.chainB .any ops n = true) (hn : n < ops.size) :
    ∀ (l : List Oper) (k : Nat) (listed : Array Bool) (a : Act), (∀ j, j < l.length → l[j]? = ops[k + j]?) → k + l.length = n → Upto ops k listed → Walks P ops s C Q k l a →
    fanHead P .any ops s C n (fun listed' a' => Upto ops n listed' ∧ Q a') l.length listed a
  | [], k, listed, a, _, hk, hu, h => by
    have : k = n := by simpa using hk
    subst this
    exact ⟨hu, h⟩
  | o :: l, k, listed, a, hl, hk, hu, h => by
    have h0 : ops[k]? = some o := by simpa using (hl 0 (by simp)).symm
    have hkn : k < n := by simp only [List.length_cons] at hk; omega
    obtain ⟨v, hy, hK⟩ := h
    refine fan_first h0 (Region.noSelect_spec hsel) hs hc hn hkn (fun listed' a' hL j hj => ?_) l.length listed a (hu.head hback (by omega)) (fun j oj hj hji hun hno => ?_) (hu.ready hback (by omega)) hy
      (fan_lex hsel hback hfr hs hc hn l (k + 1) _ _ (fun j hj => by have := hl (j + 1) (by simp; omega); simpa [Nat.add_assoc, Nat.add_comm 1 j] using this) (by simp only [List.length_cons] at hk; omega) (hu.set (by omega)) hK)
    · have h1 := (mem_ready.1 hj).1
      rw [hL.1.2 j (ready_lt hj)] at h1
      simpa using h1
    · have hjl := (Array.getElem?_eq_some_iff.1 hj).1
      rw [hu.2 j hjl] at hun
      have hkj : k < j := by have : ¬ j < k := by simpa using hun
                             omega
      rcases freeB_spec _ 0 hfr k j o oj (by simpa using h0) (by simpa using hj) hkj (by omega) with ⟨e, he, hb, ho⟩ | h2
      · exact absurd (by omega) (hno e he hb)
      · exact h2

/-- The forced tail. -/
theorem tail_any {n : Nat} {Q : Exit → Act → World → Prop} (hback : backB 0 ops.toList = true) (hc : Region.chainB .any ops n = true) :
    ∀ (l : List Oper) (k : Nat) (listed : Array Bool) (a : Act) (w : World), (∀ j, l[j]? = ops[k + j]?) → n ≤ k → k + l.length = ops.size → Upto ops k listed → wpList P ops Q l a w → wpAny P .any ops Q l.length listed a w
  | [], k, listed, a, w, _, _, hk, hu, h => by
    refine ⟨?_, h⟩
    refine List.eq_nil_iff_forall_not_mem.2 fun j hj => ?_
    have h1 := (mem_ready.1 hj).1
    have h2 := ready_lt hj
    rw [hu.2 j h2] at h1
    simp only [List.length_nil] at hk
    simp at h1; omega
  | o :: l, k, listed, a, w, hl, hnk, hk, hu, h => by
    have h0 : ops[k]? = some o := by simpa using (hl 0).symm
    simp only [List.length_cons] at hk
    have hks : k < ops.size := by omega
    refine ⟨fun h1 => absurd (hu.ready hback hks) (by rw [h1]; simp), fun i hi => ?_⟩
    have hik : i = k := by
      have h1 := (mem_ready.1 hi).1
      have h2 := ready_lt hi
      rw [hu.2 i h2] at h1
      have h3 : ¬ i < k := by simpa using h1
      rcases Nat.lt_or_ge k i with h4 | h4
      · have h5 := List.all_eq_true.1 hc i (List.mem_range.2 h2)
        simp only [Bool.or_eq_true, decide_eq_true_eq] at h5
        rcases h5 with h5 | h5
        · omega
        · obtain ⟨o', ho', e, he, hb, hon⟩ := Region.waitsFor_spec h5
          obtain ⟨_, o2, ho2, hall⟩ := mem_ready.1 hi
          obtain rfl : o' = o2 := Option.some.inj (ho'.symm.trans ho2)
          have h6 := hu.no (hall e he hb)
          omega
      · omega
    subst hik
    have hw : wpOp P ops Q i (wpList P ops Q l) a w := by unfold wpOp; simp only [h0]; exact h
    exact wpOp_mono (fun a' w' h' => tail_any hback hc l (i + 1) _ a' w' (fun j => by have := hl (j + 1); simpa [Nat.add_assoc, Nat.add_comm 1 j] using this) (by omega) (by omega) (hu.set hks) h') hw

theorem wp_region_fan {id : Nat} {Q : Exit → Act → World → Prop} {a : Act} {w : World} {l : List Oper} (n : Nat) (s : List Nat) (C : Nat → World → Prop) (hm : P.follows .mixedOrders = true) (hB : fanB l n = true) (hsp : spB l.toArray n s = true) (hC : C 0 w.drew)
    (h : Walks P l.toArray s C (fun a' => ∀ w', C s.length w' → wpList P l.toArray Q (l.drop n) a' w') 0 (l.take n) a) : (Code.region id l.toArray true).wp P Q a w := by
  simp only [fanB, Bool.and_eq_true, decide_eq_true_eq] at hB
  obtain ⟨⟨⟨⟨⟨hsel, hn'⟩, hback⟩, hfr⟩, hsk⟩, hc⟩ := hB
  have hn : n < l.toArray.size := by simpa using hn'
  have hs : Region.sinkB .any l.toArray n = true := by
    rw [Bool.or_eq_true] at hsk
    rcases hsk with hsk | hsk
    case inr => exact hsk
    refine List.all_eq_true.2 fun i hi => List.any_eq_true.2 ⟨n, List.mem_range.2 (by omega), ?_⟩
    have hi' := List.mem_range.1 hi
    rw [List.getElem?_eq_getElem hn'] at hsk
    have h1 := List.all_eq_true.1 hsk i hi
    simp only [Bool.and_eq_true, decide_eq_true_eq]
    refine ⟨hi', ?_⟩
    unfold Region.waitsFor
    rw [show l.toArray[n]? = some l[n] by simp [hn']]
    exact h1
  have htl : (l.take n).length = n := by simp; omega
  have H := fan_lex (ops := l.toArray) hsel (by simpa using hback) (by simpa using hfr) hs hc hn (l.take n) 0 _ a (fun j hj => by
    have hj' : j < n := by rw [htl] at hj; exact hj
    simp [hj']) (by simpa using htl) Upto.start h
  refine wp_region_any hm ?_
  have := wpAny_of_fan (Q := Q) hsp (g := l.toArray.size - n) (fun listed a' w' hC' hL => by
    have := tail_any (n := n) (Q := Q) (ops := l.toArray) (by simpa using hback) hc (l.drop n) n listed a' w' (fun j => by simp [List.getElem?_drop]) (Nat.le_refl _) (by simp; omega) hL.1 (hL.2 w' (by rw [← hL.1.flag (Nat.le_of_lt hn) hsp]; exact hC'))
    rwa [show (l.drop n).length = l.toArray.size - n by simp] at this) _ _ _ w.drew (by simp) (fun j oj _ hl => by rw [getD_replicate_false] at hl; cases hl) (by rw [show lvl (fun j => (Array.replicate l.toArray.size false).getD j false) s = 0 from lvl_eq _ s 0 (Nat.zero_le _) (fun j i hj => absurd hj (by omega)) (fun i _ => getD_replicate_false _ _)]; exact hC) H
  rw [htl, show n + (l.toArray.size - n) = l.toArray.size by omega] at this
  exact this
end

end Go.Proofs.Ytijkoaggcmgjiaa.Co.F2

/- A region that draws its order, by an invariant over what has come up: where an operation's value depends on the order (a new block's number). -/
namespace Go.Proofs.Ytijkoaggcmgjiaa.Co.Iv
open Go Go.RowKit
set_option linter.unusedVariables false

section
variable {P : Program} {ops : Array Oper}

/-- What an operation's run has to leave. -/
def Does (P : Program) (K : Value → World → Prop) : Result Next → Prop
  | .ok (.value v) w' => K v w'
  | .ok .skip w' => K undef w'
  | .ok (.enter f args) w' => Calls P f args w' fun e w'' => ∃ v, e = .returned v ∧ K v w''
  | _ => False

def mark (L : Nat → Bool) (i : Nat) : Nat → Bool := fun j => bif Nat.beq j i then true else L j
def put (f : Nat → Value) (d : Option Tmp) (v : Value) : Nat → Value := match d with
  | some d => upd f d v
  | none => f
/-- Operation number i, wherever it may come up. -/
def StepOk (P : Program) (ops : Array Oper) (n : Nat) (I : (Nat → Bool) → (Nat → Value) → World → Prop) (i : Nat) (o : Oper) : Prop :=
  (∀ d, o.dst = some d → d < n) ∧ ∀ L f w, L i = false → (∀ e ∈ o.after, Region.binds .any e = true → L e.on = true) → I L f w →
    (Region.wanted o (yieldE ops f) = true → Does P (fun v w' => I (mark L i) (put f o.dst v) w') ((execOp (env f) o).run P w)) ∧
    (Region.wanted o (yieldE ops f) = false → I (mark L i) (put f o.dst undef) w)
def Steps (P : Program) (ops : Array Oper) (n : Nat) (I : (Nat → Bool) → (Nat → Value) → World → Prop) : Nat → List Oper → Prop
  | _, [] => True
  | i, o :: r => StepOk P ops n I i o ∧ Steps P ops n I (i + 1) r
theorem Steps.at_ {n : Nat} {I : (Nat → Bool) → (Nat → Value) → World → Prop} : ∀ (l : List Oper) (k : Nat), Steps P ops n I k l → ∀ (j : Nat) (o : Oper), l[j]? = some o → StepOk P ops n I (k + j) o
  | o :: l, k, h, 0, o', ho => by obtain rfl : o = o' := by simpa using ho
                                  exact h.1
  | o :: l, k, h, j + 1, o', ho => by
    have := Steps.at_ l (k + 1) h.2 j o' (by simpa using ho)
    rwa [show k + 1 + j = k + (j + 1) by omega] at this
  | [], k, _, j, o', ho => by simp at ho

def un (f : Nat → Bool) : Nat → Nat
  | 0 => 0
  | n + 1 => un f n + (bif f n then 0 else 1)
theorem un_congr {f g : Nat → Bool} : ∀ n, (∀ j, j < n → f j = g j) → un f n = un g n
  | 0, _ => rfl
  | n + 1, h => by simp only [un]; rw [un_congr n fun j hj => h j (by omega), h n (by omega)]
theorem un_set {f g : Nat → Bool} {i : Nat} (hf : f i = false) (hg : g i = true) (h : ∀ j, j ≠ i → g j = f j) : ∀ n, i < n → un g n + 1 = un f n
  | n + 1, hn => by
    simp only [un]
    by_cases e : i = n
    · subst e
      rw [hf, hg, un_congr i fun j hj => h j (by omega)]
      simp
    · rw [h n (by omega), ← un_set hf hg h n (by omega)]
      omega
theorem un_pos {f : Nat → Bool} {i : Nat} (hf : f i = false) : ∀ n, i < n → 1 ≤ un f n
  | n + 1, hn => by
    simp only [un]
    by_cases e : i = n
    · subst e; rw [hf]; simp
    · have := un_pos hf n (by omega); omega

theorem all_of_ready {listed : Array Bool} (hz : listed.size = ops.size) (hback : F2.backB 0 ops.toList = true) (h : Region.ready .any ops listed = []) : ∀ i, i < ops.size → listed.getD i false = true := by
  intro i
  induction i using Nat.strongRecOn with
  | _ i ih =>
    intro hi
    cases hl : listed.getD i false
    · exfalso
      have : i ∈ Region.ready .any ops listed := mem_ready.2 ⟨getD_in (by omega) hl, ops[i], Array.getElem?_eq_getElem hi, fun e he hb => by
        have h1 := F2.backB_spec _ 0 hback i ops[i] (by simp [hi]) e he hb
        exact ih e.on (by omega) (by omega)⟩
      rw [h] at this
      cases this
    · rfl

theorem wpAny_inv {n : Nat} {I : (Nat → Bool) → (Nat → Value) → World → Prop} {Q : Exit → Act → World → Prop} (hback : F2.backB 0 ops.toList = true) (hst : Steps P ops n I 0 ops.toList)
    (hend : ∀ L f a w, (∀ i, i < ops.size → L i = true) → I L f w → Is a n f → Q .normal a w) :
    ∀ (fuel : Nat) (listed : Array Bool) (f : Nat → Value) (a : Act) (w : World), listed.size = ops.size → un (fun j => listed.getD j false) ops.size ≤ fuel → I (fun j => listed.getD j false) f w → Is a n f → wpAny P .any ops Q fuel listed a w
  | fuel, listed, f, a, w, hz, hu, hI, ha => by
    have fin : Region.ready .any ops listed = [] → Q .normal a w := fun h => hend _ f a w (all_of_ready hz hback h) hI ha
    cases fuel with
    | zero =>
      have hr : Region.ready .any ops listed = [] := List.eq_nil_iff_forall_not_mem.2 fun i hi => by
        have := un_pos (f := fun j => listed.getD j false) (getD_both (mem_ready.1 hi).1) ops.size (F2.ready_lt hi)
        omega
      exact ⟨hr, fin hr⟩
    | succ fuel =>
      refine ⟨fin, fun i hi => ?_⟩
      obtain ⟨hun, o, ho, hall⟩ := mem_ready.1 hi
      have hlt := F2.ready_lt hi
      obtain ⟨hd, hs⟩ := Steps.at_ _ 0 hst i o (by simpa using ho)
      obtain ⟨hyes, hno⟩ := hs (fun j => listed.getD j false) f w (by rw [Nat.zero_add]; exact getD_both hun) hall hI
      rw [Nat.zero_add] at hyes hno
      have hL : (fun j => (listed.setIfInBounds i true).getD j false) = mark (fun j => listed.getD j false) i := by
        funext j
        unfold mark
        by_cases e : i = j
        · subst e
          rw [Nat.beq_refl]
          simp [show i < listed.size by omega]
        · rw [getD_set_ne false e]
          have : Nat.beq j i = false := by
            cases h : Nat.beq j i
            · rfl
            · exact absurd (Nat.eq_of_beq_eq_true h).symm e
          rw [this]
          rfl
      have next : ∀ v w', I (mark (fun j => listed.getD j false) i) (put f o.dst v) w' → wpAny P .any ops Q fuel (listed.setIfInBounds i true) (a.put o.dst v) w' := fun v w' hI' => by
        refine wpAny_inv hback hst hend fuel _ (put f o.dst v) _ w' (by simp [hz]) ?_ (by rw [hL]; exact hI') ?_
        · have := un_set (f := fun j => listed.getD j false) (g := fun j => (listed.setIfInBounds i true).getD j false) (i := i) (getD_both hun) (by simp [show i < listed.size by omega]) (fun j hj => getD_set_ne false (Ne.symm hj)) ops.size hlt
          omega
        · cases hdst : o.dst with
          | none => exact ha
          | some d => exact ha.put (hd d hdst) v
      unfold wpOp
      simp only [ho]
      have hy : yielded ops a.tmps = yieldE ops f := ha.yields ops
      by_cases hw : Region.wanted o (yielded ops a.tmps) = true
      · rw [if_pos hw]
        refine .inl ?_
        have h1 := hyes (by rw [← hy]; exact hw)
        unfold Oper.wp
        rw [ha.eval]
        generalize (execOp (env f) o).run P w = r at h1
        cases r with
        | ok nx w' =>
          cases nx <;> simp only [Does] at h1 <;> simp only [Oper.upon]
          case value v => exact next v w' h1
          case skip => exact next undef w' h1
          case enter g args =>
            exact h1.mono fun e w'' ⟨v, he, hv⟩ => by subst he; exact next v w'' hv
        | halt x w' => simp only [Does] at h1
      · rw [if_neg hw]
        exact next undef w (hno (by rw [← hy]; simpa using hw))

theorem wp_region_inv {id n : Nat} {Q : Exit → Act → World → Prop} {a : Act} {w : World} {l : List Oper} (I : (Nat → Bool) → (Nat → Value) → World → Prop) (f : Nat → Value) (hm : P.follows .mixedOrders = true) (hB : F2.backB 0 l = true) (ha : Is a n f)
    (h0 : I (fun _ => false) f w.drew) (hst : Steps P l.toArray n I 0 l) (hend : ∀ L f a w, (∀ i, i < l.length → L i = true) → I L f w → Is a n f → Q .normal a w) : (Code.region id l.toArray true).wp P Q a w := by
  refine wp_region_any hm ?_
  refine wpAny_inv (I := I) (n := n) (by simpa using hB) (by simpa using hst) (fun L f a w h => hend L f a w (by simpa using h)) _ _ f _ _ (by simp) ?_ ?_ ha
  · have : ∀ m g, un g m ≤ m := fun m g => by
      induction m with
      | zero => exact Nat.le_refl _
      | succ m ih => simp only [un]; cases g m <;> simp <;> omega
    exact this _ _
  · have e : (fun j => (Array.replicate l.toArray.size false).getD j false) = fun _ => false := funext fun j => getD_replicate_false _ _
    rw [e]
    exact h0
end

end Go.Proofs.Ytijkoaggcmgjiaa.Co.Iv

/- A region that draws its order, by a table of what its operations yield: where stores may come ahead of other operations. -/
namespace Go.Proofs.Ytijkoaggcmgjiaa.Co
open Go Go.RowKit
set_option linter.unusedVariables false
set_option linter.unusedSimpArgs false

def slotAt (S : List (Option Nat)) (i : Nat) : Option Nat := (S[i]?).join
def valAt (V : List Value) (i : Nat) : Value := V.getD i undef
/-- What has come up has yielded the table's values; some slots are as they were; and something of the memory. -/
structure TI (S : List (Option Nat)) (V : List Value) (F : List (Nat × Value)) (M : (Nat → Bool) → World → Prop) (L : Nat → Bool) (f : Nat → Value) (w : World) : Prop where
  t : ∀ i d, slotAt S i = some d → L i = true → f d = valAt V i
  x : ∀ p, p ∈ F → f p.1 = p.2
  m : M L w
def fresh (S : List (Option Nat)) (G : List Nat) (i d : Nat) : Bool := (List.range S.length).all (fun j => Nat.beq j i || slotAt S j != some d) && G.all fun g => !(Nat.beq g d)

section
variable {P : Program} {ops : Array Oper} {S : List (Option Nat)} {V : List Value} {F : List (Nat × Value)} {M : (Nat → Bool) → World → Prop}
theorem slot_lt {i d : Nat} (h : slotAt S i = some d) : i < S.length := by
  unfold slotAt at h
  rcases Nat.lt_or_ge i S.length with k | k
  · exact k
  · rw [List.getElem?_eq_none k] at h; cases h
theorem mark_ne {L : Nat → Bool} {i j : Nat} (h : j ≠ i) : Iv.mark L i j = L j := by
  unfold Iv.mark
  have : Nat.beq j i = false := by
    cases e : Nat.beq j i
    · rfl
    · exact absurd (Nat.eq_of_beq_eq_true e) h
  rw [this]
  rfl
theorem mark_le {L : Nat → Bool} {i j : Nat} (h : L j = true) : Iv.mark L i j = true := by
  unfold Iv.mark
  cases Nat.beq j i
  · exact h
  · rfl
theorem TI.step {L : Nat → Bool} {f : Nat → Value} {w w' : World} {i d : Nat} (h : TI S V F M L f w) (hs : slotAt S i = some d) (hfr : fresh S (F.map Prod.fst) i d = true) (hM : M (Iv.mark L i) w') : TI S V F M (Iv.mark L i) (upd f d (valAt V i)) w' := by
  unfold fresh at hfr
  rw [Bool.and_eq_true, List.all_eq_true, List.all_eq_true] at hfr
  refine ⟨fun j d' hj hl => ?_, fun p hp => ?_, hM⟩
  · by_cases e : j = i
    · subst e
      rw [hs] at hj
      cases hj
      exact upd_at f d _
    · have hne : d' ≠ d := by
        have := hfr.1 j (List.mem_range.2 (slot_lt hj))
        intro ed
        subst ed
        have hb : Nat.beq j i = false := by
          cases eb : Nat.beq j i
          · rfl
          · exact absurd (Nat.eq_of_beq_eq_true eb) e
        rw [hb, hj] at this
        simp at this
      rw [upd_ne f _ hne]
      exact h.t j d' hj (by rwa [mark_ne e] at hl)
  · have hne : p.1 ≠ d := by
      have := hfr.2 p.1 (List.mem_map.2 ⟨p, hp, rfl⟩)
      intro ed
      rw [ed, Nat.beq_refl] at this
      cases this
    rw [upd_ne f _ hne]
    exact h.x p hp
theorem TI.skip {L : Nat → Bool} {f : Nat → Value} {w w' : World} {i : Nat} (h : TI S V F M L f w) (hs : slotAt S i = none) (hM : M (Iv.mark L i) w') : TI S V F M (Iv.mark L i) f w' :=
  ⟨fun j d' hj hl => by
    have e : j ≠ i := fun e => by subst e; rw [hs] at hj; cases hj
    exact h.t j d' hj (by rwa [mark_ne e] at hl), h.x, hM⟩

/-- An operation that yields the table's value and leaves the memory. -/
theorem ti_val {n i : Nat} {d : Tmp} {v : Value} {op : Op} {ty : TypeId} {pos : String} {af : Array Edge} (hd : Nat.blt d n = true) (hs : slotAt S i = some d) (hfr : fresh S (F.map Prod.fst) i d = true) (hM : ∀ L w, M L w → M (Iv.mark L i) w)
    (hv : v = valAt V i) (hrun : ∀ L f w, L i = false → (∀ e ∈ af, Region.binds .any e = true → L e.on = true) → TI S V F M L f w → (execOp (env f) { dst := some d, op := op, type := ty, pos := pos, after := af, guard := none }).run P w = .ok (.value v) w) :
    Iv.StepOk P ops n (TI S V F M) i { dst := some d, op := op, type := ty, pos := pos, after := af, guard := none } := by
  subst hv
  refine ⟨fun d' h => by cases h; simpa using hd, fun L f w hL hdep H => ⟨fun _ => ?_, fun h => by cases h⟩⟩
  rw [hrun L f w hL hdep H]
  exact H.step hs hfr (hM L w H.m)
/-- A store. -/
theorem ti_store {n i : Nat} {op : Op} {ty : TypeId} {pos : String} {af : Array Edge} (hs : slotAt S i = none)
    (hrun : ∀ L f w, L i = false → (∀ e ∈ af, Region.binds .any e = true → L e.on = true) → TI S V F M L f w → ∃ w', (execOp (env f) { dst := none, op := op, type := ty, pos := pos, after := af, guard := none }).run P w = .ok .skip w' ∧ M (Iv.mark L i) w') :
    Iv.StepOk P ops n (TI S V F M) i { dst := none, op := op, type := ty, pos := pos, after := af, guard := none } := by
  refine ⟨fun d' h => (by cases h), fun L f w hL hdep H => ⟨fun _ => ?_, fun h => by cases h⟩⟩
  obtain ⟨w', h, hM⟩ := hrun L f w hL hdep H
  rw [h]
  exact H.skip hs hM
end

end Go.Proofs.Ytijkoaggcmgjiaa.Co

/- A region that draws its order, by a table of what its operations yield; what of the memory stands may speak of slots, too (a new block's number). -/
namespace Go.Proofs.Ytijkoaggcmgjiaa.Co
open Go Go.RowKit
set_option linter.unusedVariables false
set_option linter.unusedSimpArgs false

structure TJ (S : List (Option Nat)) (V : List Value) (F : List (Nat × Value)) (M : (Nat → Bool) → (Nat → Value) → World → Prop) (L : Nat → Bool) (f : Nat → Value) (w : World) : Prop where
  t : ∀ i d, slotAt S i = some d → L i = true → f d = valAt V i
  x : ∀ p, p ∈ F → f p.1 = p.2
  m : M L f w

section
variable {P : Program} {ops : Array Oper} {S : List (Option Nat)} {V : List Value} {F : List (Nat × Value)} {M : (Nat → Bool) → (Nat → Value) → World → Prop}
theorem TJ.step {L : Nat → Bool} {f : Nat → Value} {w w' : World} {i d : Nat} {v : Value} (h : TJ S V F M L f w) (hs : slotAt S i = none ∨ slotAt S i = some d ∧ v = valAt V i) (hfr : fresh S (F.map Prod.fst) i d = true) (hM : M (Iv.mark L i) (upd f d v) w') : TJ S V F M (Iv.mark L i) (upd f d v) w' := by
  unfold fresh at hfr
  rw [Bool.and_eq_true, List.all_eq_true, List.all_eq_true] at hfr
  refine ⟨fun j d' hj hl => ?_, fun p hp => ?_, hM⟩
  · by_cases e : j = i
    · subst e
      rcases hs with hs | ⟨hs, hv⟩
      · rw [hs] at hj; cases hj
      · rw [hs] at hj
        cases hj
        rw [upd_at f d _, hv]
    · have hne : d' ≠ d := by
        have := hfr.1 j (List.mem_range.2 (slot_lt hj))
        intro ed
        subst ed
        have hb : Nat.beq j i = false := by
          cases eb : Nat.beq j i
          · rfl
          · exact absurd (Nat.eq_of_beq_eq_true eb) e
        rw [hb, hj] at this
        simp at this
      rw [upd_ne f _ hne]
      exact h.t j d' hj (by rwa [mark_ne e] at hl)
  · have hne : p.1 ≠ d := by
      have := hfr.2 p.1 (List.mem_map.2 ⟨p, hp, rfl⟩)
      intro ed
      rw [ed, Nat.beq_refl] at this
      cases this
    rw [upd_ne f _ hne]
    exact h.x p hp
theorem TJ.skip {L : Nat → Bool} {f : Nat → Value} {w w' : World} {i : Nat} (h : TJ S V F M L f w) (hs : slotAt S i = none) (hM : M (Iv.mark L i) f w') : TJ S V F M (Iv.mark L i) f w' :=
  ⟨fun j d' hj hl => by
    have e : j ≠ i := fun e => by subst e; rw [hs] at hj; cases hj
    exact h.t j d' hj (by rwa [mark_ne e] at hl), h.x, hM⟩

/-- An operation that yields the table's value and leaves the memory. -/
theorem tj_val {n i : Nat} {d : Tmp} {v : Value} {op : Op} {ty : TypeId} {pos : String} {af : Array Edge} (hd : Nat.blt d n = true) (hs : slotAt S i = some d) (hfr : fresh S (F.map Prod.fst) i d = true) (hM : ∀ L f w, M L f w → M (Iv.mark L i) (upd f d v) w)
    (hv : v = valAt V i) (hrun : ∀ L f w, L i = false → (∀ e ∈ af, Region.binds .any e = true → L e.on = true) → TJ S V F M L f w → (execOp (env f) { dst := some d, op := op, type := ty, pos := pos, after := af, guard := none }).run P w = .ok (.value v) w) :
    Iv.StepOk P ops n (TJ S V F M) i { dst := some d, op := op, type := ty, pos := pos, after := af, guard := none } := by
  refine ⟨fun d' h => by cases h; simpa using hd, fun L f w hL hdep H => ⟨fun _ => ?_, fun h => by cases h⟩⟩
  rw [hrun L f w hL hdep H]
  exact H.step (.inr ⟨hs, hv⟩) hfr (hM L f w H.m)
/-- A call that returns the table's value and leaves the older blocks. -/
theorem tj_call {n i : Nat} {d : Tmp} {v : Value} {g : FuncId} {op : Op} {ty : TypeId} {pos : String} {af : Array Edge} (hd : Nat.blt d n = true) (hs : slotAt S i = some d) (hfr : fresh S (F.map Prod.fst) i d = true) (hM : ∀ L f w w', Below w.heap.size w w' → M L f w → M (Iv.mark L i) (upd f d v) w')
    (hv : v = valAt V i) (hrun : ∀ L f w, L i = false → (∀ e ∈ af, Region.binds .any e = true → L e.on = true) → TJ S V F M L f w → ∃ args, (execOp (env f) { dst := some d, op := op, type := ty, pos := pos, after := af, guard := none }).run P w = .ok (.enter g args) w ∧ Calls P g args w fun e w' => e = .returned v ∧ Below w.heap.size w w') :
    Iv.StepOk P ops n (TJ S V F M) i { dst := some d, op := op, type := ty, pos := pos, after := af, guard := none } := by
  refine ⟨fun d' h => by cases h; simpa using hd, fun L f w hL hdep H => ⟨fun _ => ?_, fun h => by cases h⟩⟩
  obtain ⟨args, h1, h2⟩ := hrun L f w hL hdep H
  rw [h1]
  exact h2.mono fun e w' ⟨he, hb⟩ => ⟨v, he, H.step (.inr ⟨hs, hv⟩) hfr (hM L f w w' hb H.m)⟩
/-- A new block. -/
theorem tj_any {n i : Nat} {d : Tmp} {op : Op} {ty : TypeId} {pos : String} {af : Array Edge} (hd : Nat.blt d n = true) (hs : slotAt S i = none) (hfr : fresh S (F.map Prod.fst) i d = true)
    (hrun : ∀ L f w, L i = false → (∀ e ∈ af, Region.binds .any e = true → L e.on = true) → TJ S V F M L f w → ∃ v w', (execOp (env f) { dst := some d, op := op, type := ty, pos := pos, after := af, guard := none }).run P w = .ok (.value v) w' ∧ M (Iv.mark L i) (upd f d v) w') :
    Iv.StepOk P ops n (TJ S V F M) i { dst := some d, op := op, type := ty, pos := pos, after := af, guard := none } := by
  refine ⟨fun d' h => by cases h; simpa using hd, fun L f w hL hdep H => ⟨fun _ => ?_, fun h => by cases h⟩⟩
  obtain ⟨v, w', h1, h2⟩ := hrun L f w hL hdep H
  rw [h1]
  exact H.step (.inl hs) hfr h2
/-- A store. -/
theorem tj_store {n i : Nat} {op : Op} {ty : TypeId} {pos : String} {af : Array Edge} (hs : slotAt S i = none)
    (hrun : ∀ L f w, L i = false → (∀ e ∈ af, Region.binds .any e = true → L e.on = true) → TJ S V F M L f w → ∃ w', (execOp (env f) { dst := none, op := op, type := ty, pos := pos, after := af, guard := none }).run P w = .ok .skip w' ∧ M (Iv.mark L i) f w') :
    Iv.StepOk P ops n (TJ S V F M) i { dst := none, op := op, type := ty, pos := pos, after := af, guard := none } := by
  refine ⟨fun d' h => (by cases h), fun L f w hL hdep H => ⟨fun _ => ?_, fun h => by cases h⟩⟩
  obtain ⟨w', h, hM⟩ := hrun L f w hL hdep H
  rw [h]
  exact H.skip hs hM
end

end Go.Proofs.Ytijkoaggcmgjiaa.Co

/- New blocks in a region that draws its order: where they lie is known when all has come up. -/
namespace Go.Proofs.Ytijkoaggcmgjiaa.Co
open Go Go.RowKit
set_option linter.unusedVariables false
set_option linter.unusedSimpArgs false

/-- A new block: the operation that makes it, the one that stores it whole, the slot, the cells, the type. -/
structure NewB where
  a : Nat
  s : Nat
  p : Nat
  c : Array Value
  t : TypeId
structure MB (W : World) (l : List NewB) (L : Nat → Bool) (f : Nat → Value) (w : World) : Prop where
  b : Below W.heap.size W w
  a : ∀ q ∈ l, L q.a = true → ∃ n c0, f q.p = .pointer (some ⟨n, 0, none⟩) ∧ W.heap.size ≤ n ∧ Var w n c0 q.t ∧ c0.size = q.c.size ∧ (L q.s = true → c0 = q.c)
  ne : ∀ q ∈ l, ∀ r ∈ l, q.p ≠ r.p → L q.a = true → L r.a = true → f q.p ≠ f r.p
  s : ∀ q ∈ l, L q.s = true → L q.a = true
def apartB (l : List NewB) (i d : Nat) : Bool := l.all fun q => !(Nat.beq q.a i) && !(Nat.beq q.s i) && !(Nat.beq q.p d)
theorem apart_of {l : List NewB} {i d : Nat} (h : apartB l i d = true) {q : NewB} (hq : q ∈ l) : q.a ≠ i ∧ q.s ≠ i ∧ q.p ≠ d := by
  unfold apartB at h
  have := List.all_eq_true.1 h q hq
  simp only [Bool.and_eq_true, Bool.not_eq_true'] at this
  refine ⟨fun e => ?_, fun e => ?_, fun e => ?_⟩
  · rw [e, Nat.beq_refl] at this; exact absurd this.1.1 (by decide)
  · rw [e, Nat.beq_refl] at this; exact absurd this.1.2 (by decide)
  · rw [e, Nat.beq_refl] at this; exact absurd this.2 (by decide)
/-- Each block of the list is like q or apart from it. -/
def likeB (l : List NewB) (q : NewB) : Prop := ∀ r ∈ l, r = q ∨ (r.a ≠ q.a ∧ r.s ≠ q.a ∧ r.p ≠ q.p ∧ r.a ≠ q.s ∧ r.s ≠ q.s)

def apB (a s p a' s' p' : Nat) : Bool := !(Nat.beq a a') && !(Nat.beq s a') && !(Nat.beq p p') && !(Nat.beq a s') && !(Nat.beq s s')
theorem ne_of_beq {a b : Nat} (h : (!(Nat.beq a b)) = true) : a ≠ b := fun e => by rw [e, Nat.beq_refl] at h; cases h
theorem like_nil (q : NewB) : likeB [] q := fun r hr => by cases hr
theorem like_cons {r q : NewB} {l : List NewB} (h : r = q ∨ apB r.a r.s r.p q.a q.s q.p = true) (hl : likeB l q) : likeB (r :: l) q := fun x hx => by
  rcases List.mem_cons.1 hx with rfl | hx
  · rcases h with h | h
    · exact .inl h
    · unfold apB at h
      simp only [Bool.and_eq_true] at h
      exact .inr ⟨ne_of_beq h.1.1.1.1, ne_of_beq h.1.1.1.2, ne_of_beq h.1.1.2, ne_of_beq h.1.2, ne_of_beq h.2⟩
  · exact hl x hx

section
variable {W w w' : World} {l : List NewB} {L : Nat → Bool} {f : Nat → Value} {i d : Nat} {v : Value}
theorem MB.start (W : World) (l : List NewB) (f : Nat → Value) : MB W l (fun _ => false) f W.drew :=
  ⟨(Below.refl _ W).drew, fun _ _ h => (by cases h), fun _ _ _ _ _ h => (by cases h), fun _ _ h => (by cases h)⟩
theorem MB.next (h : MB W l L f w) (hb : Below w.heap.size w w') (hi : apartB l i d = true) : MB W l (Iv.mark L i) (upd f d v) w' := by
  have k := fun q hq => apart_of (l := l) hi (q := q) hq
  have ea : ∀ q ∈ l, Iv.mark L i q.a = L q.a := fun q hq => mark_ne (k q hq).1
  have es : ∀ q ∈ l, Iv.mark L i q.s = L q.s := fun q hq => mark_ne (k q hq).2.1
  have ep : ∀ q ∈ l, upd f d v q.p = f q.p := fun q hq => upd_ne f v (k q hq).2.2
  refine ⟨below_next h.b hb, fun q hq hl => ?_, fun q hq r hr hne h1 h2 => ?_, fun q hq hl => ?_⟩
  · rw [ea q hq] at hl
    obtain ⟨n, c0, h1, h2, h3, h4, h5⟩ := h.a q hq hl
    exact ⟨n, c0, (ep q hq).trans h1, h2, h3.next hb, h4, fun hs => h5 (by rwa [es q hq] at hs)⟩
  · rw [ep q hq, ep r hr]
    rw [ea q hq] at h1
    rw [ea r hr] at h2
    exact h.ne q hq r hr hne h1 h2
  · rw [ea q hq]
    rw [es q hq] at hl
    exact h.s q hq hl
theorem MB.alloc (h : MB W l L f w) {q : NewB} (hq : q ∈ l) (hk : likeB l q) {c : Array Value} (hc : c.size = q.c.size) (hL : L q.a = false) (hsa : q.s ≠ q.a) :
    MB W l (Iv.mark L q.a) (upd f q.p (.pointer (some ⟨w.heap.size, 0, none⟩))) (w.alloc (.cells c q.t)) := by
  have hs : L q.s = false := by
    cases e : L q.s
    · rfl
    · rw [h.s q hq e] at hL; cases hL
  have old : ∀ r ∈ l, r ≠ q → L r.a = true → ∃ n c0, f r.p = .pointer (some ⟨n, 0, none⟩) ∧ W.heap.size ≤ n ∧ Var w n c0 r.t ∧ c0.size = r.c.size ∧ (L r.s = true → c0 = r.c) := fun r hr _ hl => h.a r hr hl
  have far : ∀ r ∈ l, r ≠ q → (Iv.mark L q.a r.a = L r.a ∧ Iv.mark L q.a r.s = L r.s ∧ ∀ v, upd f q.p v r.p = f r.p) := fun r hr hne => by
    rcases hk r hr with e | e
    · exact absurd e hne
    · exact ⟨mark_ne e.1, mark_ne e.2.1, fun v => upd_ne f v e.2.2.1⟩
  refine ⟨below_alloc h.b _, fun r hr hl => ?_, fun r hr r' hr' hne h1 h2 => ?_, fun r hr hl => ?_⟩
  · by_cases e : r = q
    · subst e
      exact ⟨w.heap.size, c, upd_at _ _ _, h.b.size, Var.new w _ _ _ rfl, hc, fun hx => by rw [mark_ne hsa, hs] at hx; cases hx⟩
    · obtain ⟨e1, e2, e3⟩ := far r hr e
      rw [e1] at hl
      obtain ⟨n, c0, k1, k2, k3, k4, k5⟩ := h.a r hr hl
      exact ⟨n, c0, (e3 _).trans k1, k2, k3.alloc _, k4, fun hx => k5 (by rwa [e2] at hx)⟩
  · have lt : ∀ r ∈ l, r ≠ q → Iv.mark L q.a r.a = true → f r.p ≠ .pointer (some ⟨w.heap.size, 0, none⟩) := fun r hr e hl => by
      rw [(far r hr e).1] at hl
      obtain ⟨n, c0, k1, k2, k3, -⟩ := h.a r hr hl
      rw [k1]
      intro ee
      have := k3.lt
      injection ee with ee; injection ee with ee; injection ee with ee
      omega
    by_cases e : r = q
    · by_cases e' : r' = q
      · exact absurd (by rw [e, e']) hne
      · rw [(far r' hr' e').2.2, e, upd_at]; exact (lt r' hr' e' h2).symm
    · by_cases e' : r' = q
      · rw [(far r hr e).2.2, e', upd_at]; exact lt r hr e h1
      · rw [(far r hr e).2.2, (far r' hr' e').2.2]
        rw [(far r hr e).1] at h1
        rw [(far r' hr' e').1] at h2
        exact h.ne r hr r' hr' hne h1 h2
  · by_cases e : r = q
    · subst e; rw [mark_ne hsa, hs] at hl; cases hl
    · rw [(far r hr e).2.1] at hl
      rw [(far r hr e).1]; exact h.s r hr hl
theorem MB.store (h : MB W l L f w) {q : NewB} (hq : q ∈ l) (hk : likeB l q) (hsa : q.s ≠ q.a) (hL : L q.a = true) {n : Nat} (hp : f q.p = .pointer (some ⟨n, 0, none⟩)) (hb : Below W.heap.size W w') (hv : Var w' n q.c q.t) (hkeep : ∀ m, m ≠ n → w'.heap[m]? = w.heap[m]?) :
    MB W l (Iv.mark L q.s) f w' := by
  have far : ∀ r ∈ l, r ≠ q → (Iv.mark L q.s r.a = L r.a ∧ Iv.mark L q.s r.s = L r.s) := fun r hr hne => by
    rcases hk r hr with e | e
    · exact absurd e hne
    · exact ⟨mark_ne e.2.2.2.1, mark_ne e.2.2.2.2⟩
  have ha : ∀ r ∈ l, Iv.mark L q.s r.a = true → L r.a = true := fun r hr hl => by
    by_cases e : r = q
    · rw [e]; exact hL
    · rwa [(far r hr e).1] at hl
  refine ⟨hb, fun r hr hl => ?_, fun r hr r' hr' hne h1 h2 => h.ne r hr r' hr' hne (ha r hr h1) (ha r' hr' h2), fun r hr hl => ?_⟩
  · obtain ⟨m, c0, k1, k2, k3, k4, k5⟩ := h.a r hr (ha r hr hl)
    by_cases e : r = q
    · subst e
      have : m = n := by rw [hp] at k1; injection k1 with k1; injection k1 with k1; injection k1 with k1; exact k1.symm
      subst this
      exact ⟨m, r.c, k1, k2, hv, rfl, fun _ => rfl⟩
    · have hne : m ≠ n := by
        intro e2
        have hpp : r.p ≠ q.p := by
          rcases hk r hr with e3 | e3
          · exact absurd e3 e
          · exact e3.2.2.1
        refine h.ne r hr q hq hpp (ha r hr hl) hL ?_
        rw [k1, hp, e2]
      exact ⟨m, c0, k1, k2, k3.keep (hkeep m hne), k4, fun hx => k5 (by rwa [(far r hr e).2] at hx)⟩
  · by_cases e : r = q
    · subst e; rw [mark_ne hsa.symm]; exact hL
    · rw [(far r hr e).2] at hl
      rw [(far r hr e).1]; exact h.s r hr hl
/-- What stands when all has come up. -/
theorem MB.done (h : MB W l L f w) {q : NewB} (ha : L q.a = true) (hs : L q.s = true) (hq : q ∈ l) : ∃ n, f q.p = .pointer (some ⟨n, 0, none⟩) ∧ W.heap.size ≤ n ∧ Var w n q.c q.t := by
  obtain ⟨n, c0, k1, k2, k3, -, k5⟩ := h.a q hq ha
  exact ⟨n, k1, k2, k5 hs ▸ k3⟩
end

section
variable {P : Program} {ops : Array Oper} {S : List (Option Nat)} {V : List Value} {F : List (Nat × Value)} {W : World} {l : List NewB} {n i : Nat} {d : Tmp} {ty : TypeId} {pos : String} {af : Array Edge}
/-- A value, in whatever world of the class. -/
theorem nb_val {v : Value} {op : Op} (hd : Nat.blt d n = true) (hs : slotAt S i = some d) (hfr : fresh S (F.map Prod.fst) i d = true) (hap : apartB l i d = true) (hv : v = valAt V i)
    (hrun : ∀ L f w, L i = false → (∀ e ∈ af, Region.binds .any e = true → L e.on = true) → TJ S V F (MB W l) L f w → (execOp (env f) { dst := some d, op := op, type := ty, pos := pos, after := af, guard := none }).run P w = .ok (.value v) w) :
    Iv.StepOk P ops n (TJ S V F (MB W l)) i { dst := some d, op := op, type := ty, pos := pos, after := af, guard := none } :=
  tj_val hd hs hfr (fun _ _ _ h => h.next (Below.refl _ _) hap) hv hrun
theorem nb_call {v : Value} {g : FuncId} {op : Op} (hd : Nat.blt d n = true) (hs : slotAt S i = some d) (hfr : fresh S (F.map Prod.fst) i d = true) (hap : apartB l i d = true) (hv : v = valAt V i)
    (hrun : ∀ L f w, L i = false → (∀ e ∈ af, Region.binds .any e = true → L e.on = true) → TJ S V F (MB W l) L f w → ∃ args, (execOp (env f) { dst := some d, op := op, type := ty, pos := pos, after := af, guard := none }).run P w = .ok (.enter g args) w ∧ Calls P g args w fun e w' => e = .returned v ∧ Below w.heap.size w w') :
    Iv.StepOk P ops n (TJ S V F (MB W l)) i { dst := some d, op := op, type := ty, pos := pos, after := af, guard := none } :=
  tj_call hd hs hfr (fun _ _ _ _ hb h => h.next hb hap) hv hrun
theorem nb_new {q : NewB} {op : Op} {c : Array Value} (hq : q ∈ l) (hk : likeB l q) (hsa : q.s ≠ q.a) (hi : q.a = i) (hp : q.p = d) (hc : c.size = q.c.size) (hd : Nat.blt d n = true) (hs : slotAt S i = none) (hfr : fresh S (F.map Prod.fst) i d = true)
    (hrun : ∀ f w, (execOp (env f) { dst := some d, op := op, type := ty, pos := pos, after := af, guard := none }).run P w = .ok (.value (.pointer (some ⟨w.heap.size, 0, none⟩))) (w.alloc (.cells c q.t))) :
    Iv.StepOk P ops n (TJ S V F (MB W l)) i { dst := some d, op := op, type := ty, pos := pos, after := af, guard := none } := by
  subst hi hp
  exact tj_any hd hs hfr fun L f w hL _ H => ⟨_, _, hrun f w, H.m.alloc hq hk hc hL hsa⟩
theorem nb_store {q : NewB} {op : Op} (hq : q ∈ l) (hk : likeB l q) (hsa : q.s ≠ q.a) (hi : q.s = i) (hs : slotAt S i = none) (haf : ∃ e ∈ af, Region.binds .any e = true ∧ e.on = q.a)
    (hrun : ∀ L f w m c0, (∀ e ∈ af, Region.binds .any e = true → L e.on = true) → TJ S V F (MB W l) L f w → f q.p = .pointer (some ⟨m, 0, none⟩) → W.heap.size ≤ m → Var w m c0 q.t → c0.size = q.c.size →
      ∃ w', (execOp (env f) { dst := none, op := op, type := ty, pos := pos, after := af, guard := none }).run P w = .ok .skip w' ∧ Below W.heap.size W w' ∧ Var w' m q.c q.t ∧ ∀ k, k ≠ m → w'.heap[k]? = w.heap[k]?) :
    Iv.StepOk P ops n (TJ S V F (MB W l)) i { dst := none, op := op, type := ty, pos := pos, after := af, guard := none } := by
  subst hi
  refine tj_store hs fun L f w hL hdep H => ?_
  obtain ⟨e, he, hb, hon⟩ := haf
  have hA : L q.a = true := hon ▸ hdep e he hb
  obtain ⟨m, c0, k1, k2, k3, k4, -⟩ := H.m.a q hq hA
  obtain ⟨w', r1, r2, r3, r4⟩ := hrun L f w m c0 hdep H k1 k2 k3 k4
  exact ⟨w', r1, H.m.store hq hk hsa hA k1 r2 r3 r4⟩
end

end Go.Proofs.Ytijkoaggcmgjiaa.Co

/- Points of a curve, its division: numbers alone. -/
namespace Go.Proofs.Ytijkoaggcmgjiaa.Co
set_option linter.unusedVariables false

/-- Round half up. -/
def rnd (a b : Int) : Int := (2 * a + b) / (2 * b)
theorem rnd_add (a b m : Int) (hb : 0 < b) : rnd (a + m * b) b = rnd a b + m := by
  unfold rnd
  rw [show 2 * (a + m * b) + b = (2 * a + b) + m * (2 * b) by rw [Int.mul_add, Int.mul_left_comm]; omega]
  exact Int.add_mul_ediv_right _ _ (by omega)
theorem rnd_ge {a b m : Int} (hb : 0 < b) (h : m * b ≤ a) : m ≤ rnd a b := by
  unfold rnd
  rw [Int.le_ediv_iff_mul_le (by omega), Int.mul_left_comm]; omega
theorem rnd_le {a b m : Int} (hb : 0 < b) (h : a ≤ m * b) : rnd a b ≤ m := by
  unfold rnd
  have : (2 * a + b) / (2 * b) < m + 1 := by
    rw [Int.ediv_lt_iff_lt_mul (by omega), Int.mul_left_comm, Int.add_mul]; omega
  omega
theorem rnd_self {b m : Int} (hb : 0 < b) : rnd (m * b) b = m :=
  Int.le_antisymm (rnd_le hb (Int.le_refl _)) (rnd_ge hb (Int.le_refl _))
theorem rnd_bd {a b : Int} (hb : 0 < b) : 2 * (rnd a b * b) ≤ 2 * a + b ∧ 2 * a + b < 2 * (rnd a b * b) + 2 * b := by
  have h1 := Int.mul_ediv_self_le (x := 2 * a + b) (k := 2 * b) (by omega)
  have h2 := Int.lt_mul_ediv_self_add (x := 2 * a + b) (k := 2 * b) (by omega)
  unfold rnd
  rw [Int.mul_assoc, Int.mul_comm b] at h1 h2
  exact ⟨h1, h2⟩

/-- The three weights of the point at k/n. -/
def w0 (k n : Int) : Int := 256 * (n - k) * (n - k)
def w1 (w k n : Int) : Int := 2 * k * (n - k) * w
def w2 (k : Int) : Int := 256 * k * k
def ww (w k n : Int) : Int := w0 k n + w1 w k n + w2 k
/-- One coordinate of the point at k/n. -/
def crd (a b c w k n : Int) : Int := rnd (w0 k n * a + w1 w k n * b + w2 k * c) (ww w k n)

theorem mul_bd {a b A B : Int} (ha : 0 ≤ a ∧ a ≤ A) (hb : 0 ≤ b ∧ b ≤ B) : 0 ≤ a * b ∧ a * b ≤ A * B :=
  ⟨Int.mul_nonneg ha.1 hb.1, Int.mul_le_mul ha.2 hb.2 hb.1 (by omega)⟩
theorem sq_pos {a : Int} (h : a ≠ 0) : 1 ≤ a * a := by
  rcases Int.lt_or_gt_of_ne h with h | h
  · have := Int.mul_pos (a := -a) (b := -a) (by omega) (by omega)
    rw [Int.neg_mul_neg] at this; omega
  · have := Int.mul_pos (a := a) (b := a) (by omega) (by omega); omega
structure InK (w k n : Int) : Prop where
  k0 : 0 ≤ k
  kn : k ≤ n
  n1 : 1 ≤ n
  n2 : n ≤ 1024
  wl : 16 ≤ w
  wu : w ≤ 4096
theorem w0_bd {w k n : Int} (h : InK w k n) : 0 ≤ w0 k n ∧ w0 k n ≤ 268435456 := by
  have := h.k0; have := h.kn; have := h.n2
  have h1 := mul_bd (a := 256 * (n - k)) (b := n - k) (A := 262144) (B := 1024) (by omega) (by omega)
  exact h1
theorem w2_bd {w k n : Int} (h : InK w k n) : 0 ≤ w2 k ∧ w2 k ≤ 268435456 := by
  have := h.k0; have := h.kn; have := h.n2
  exact mul_bd (a := 256 * k) (b := k) (A := 262144) (B := 1024) (by omega) (by omega)
theorem w1_bd' {w k n : Int} (h : InK w k n) : 0 ≤ 2 * k * (n - k) ∧ 2 * k * (n - k) ≤ 2097152 := by
  have := h.k0; have := h.kn; have := h.n2
  exact mul_bd (a := 2 * k) (b := n - k) (A := 2048) (B := 1024) (by omega) (by omega)
theorem w1_bd {w k n : Int} (h : InK w k n) : 0 ≤ w1 w k n ∧ w1 w k n ≤ 8589934592 := by
  have := h.wl; have := h.wu
  exact mul_bd (B := 4096) (w1_bd' h) (by omega)
theorem ww_pos {w k n : Int} (h : InK w k n) : 0 < ww w k n := by
  have a := w0_bd h; have b := w1_bd h; have c := w2_bd h
  unfold ww
  by_cases hk : k = 0
  · have : 1 ≤ (n - k) * (n - k) := sq_pos (by have := h.n1; omega)
    have e : w0 k n = 256 * ((n - k) * (n - k)) := by unfold w0; rw [Int.mul_assoc]
    omega
  · have : 1 ≤ k * k := sq_pos hk
    have e : w2 k = 256 * (k * k) := by unfold w2; rw [Int.mul_assoc]
    omega
theorem crd_shift {a b c w k n : Int} (h : InK w k n) (d : Int) : crd (a + d) (b + d) (c + d) w k n = crd a b c w k n + d := by
  unfold crd
  rw [← rnd_add _ _ d (ww_pos h)]
  congr 1
  unfold ww
  simp only [Int.mul_add, Int.add_mul, Int.mul_comm d]; omega
theorem crd_back (a b c w k n : Int) : crd c b a w (n - k) n = crd a b c w k n := by
  have e0 : w0 (n - k) n = w2 k := by unfold w0 w2; rw [show n - (n - k) = k by omega]
  have e2 : w2 (n - k) = w0 k n := rfl
  have e1 : w1 w (n - k) n = w1 w k n := by unfold w1; rw [show n - (n - k) = k by omega, Int.mul_assoc 2, Int.mul_comm (n - k), ← Int.mul_assoc]
  unfold crd ww
  rw [e0, e1, e2]
  congr 1 <;> omega
theorem crd_ge {a b c w k n m : Int} (h : InK w k n) (ha : m ≤ a) (hb : m ≤ b) (hc : m ≤ c) : m ≤ crd a b c w k n := by
  refine rnd_ge (ww_pos h) ?_
  unfold ww
  have e0 := w0_bd h; have e1 := w1_bd h; have e2 := w2_bd h
  have f0 := Int.mul_le_mul_of_nonneg_left ha e0.1
  have f1 := Int.mul_le_mul_of_nonneg_left hb e1.1
  have f2 := Int.mul_le_mul_of_nonneg_left hc e2.1
  rw [Int.mul_add, Int.mul_add, Int.mul_comm m, Int.mul_comm m, Int.mul_comm m]; omega
theorem crd_le {a b c w k n m : Int} (h : InK w k n) (ha : a ≤ m) (hb : b ≤ m) (hc : c ≤ m) : crd a b c w k n ≤ m := by
  refine rnd_le (ww_pos h) ?_
  unfold ww
  have e0 := w0_bd h; have e1 := w1_bd h; have e2 := w2_bd h
  have f0 := Int.mul_le_mul_of_nonneg_left ha e0.1
  have f1 := Int.mul_le_mul_of_nonneg_left hb e1.1
  have f2 := Int.mul_le_mul_of_nonneg_left hc e2.1
  rw [Int.mul_add, Int.mul_add, Int.mul_comm m, Int.mul_comm m, Int.mul_comm m]; omega
theorem crd_end (a b c w n : Int) (h : InK w n n) : crd a b c w n n = c := by
  unfold crd
  have e0 : w0 n n = 0 := by unfold w0; simp
  have e1 : w1 w n n = 0 := by unfold w1; simp
  have hp := ww_pos h
  unfold ww at hp ⊢
  rw [e0, e1] at hp ⊢
  simp only [Int.zero_mul, Int.zero_add] at hp ⊢
  rw [Int.mul_comm]; exact rnd_self hp
theorem crd_start (a b c w n : Int) (h : InK w 0 n) : crd a b c w 0 n = a := by
  have := crd_back a b c w 0 n
  rw [← this, Int.sub_zero]
  exact crd_end _ _ _ _ _ ⟨by have := h.n1; omega, by omega, h.n1, h.n2, h.wl, h.wu⟩

structure P2 where
  x : Int
  y : Int
deriving DecidableEq, Inhabited
/-- A curve. -/
structure Cu where
  p : P2
  q : P2
  r : P2
  w : Int
def Cu.at (c : Cu) (k n : Int) : P2 := ⟨crd c.p.x c.q.x c.r.x c.w k n, crd c.p.y c.q.y c.r.y c.w k n⟩
def Cu.rev (c : Cu) : Cu := ⟨c.r, c.q, c.p, c.w⟩
def P2.sh (p : P2) (dx dy : Int) : P2 := ⟨p.x + dx, p.y + dy⟩
def Cu.sh (c : Cu) (dx dy : Int) : Cu := ⟨c.p.sh dx dy, c.q.sh dx dy, c.r.sh dx dy, c.w⟩
theorem at_rev (c : Cu) (k n : Int) : c.rev.at (n - k) n = c.at k n := by
  unfold Cu.at Cu.rev
  simp only [crd_back]
theorem at_sh {c : Cu} {k n : Int} (h : InK c.w k n) (dx dy : Int) : (c.sh dx dy).at k n = (c.at k n).sh dx dy := by
  unfold Cu.at Cu.sh P2.sh
  simp only [crd_shift h]
def cross (m a b : P2) : Int := (b.x - a.x) * (m.y - a.y) - (b.y - a.y) * (m.x - a.x)
def btw (m a b : Int) : Bool := decide (min a b - 1 ≤ m ∧ m ≤ max a b + 1)
def flatB (m a b : P2) : Bool := decide (max (cross m a b) (-cross m a b) ≤ max (max (max (max (b.x - a.x) (-(b.x - a.x))) (b.y - a.y)) (-(b.y - a.y))) 1)
def near (m a b : P2) : Bool := btw m.x a.x b.x && (btw m.y a.y b.y && flatB m a b)
theorem cross_swap (m a b : P2) : cross m b a = - cross m a b := by
  unfold cross
  simp only [Int.mul_sub, Int.sub_mul]
  rw [Int.mul_comm a.y b.x, Int.mul_comm b.y b.x, Int.mul_comm a.y a.x, Int.mul_comm b.y a.x]; omega
theorem near_swap (m a b : P2) : near m b a = near m a b := by
  unfold near btw flatB
  rw [cross_swap]
  have e1 : ∀ u v : Int, min u v = min v u := Int.min_comm
  congr 1
  · rw [Int.min_comm, Int.max_comm]
  · congr 1
    · rw [Int.min_comm, Int.max_comm]
    · generalize cross m a b = z
      apply decide_eq_decide.2
      omega
theorem near_sh (m a b : P2) (dx dy : Int) : near (m.sh dx dy) (a.sh dx dy) (b.sh dx dy) = near m a b := by
  have hc : cross (m.sh dx dy) (a.sh dx dy) (b.sh dx dy) = cross m a b := by
    unfold cross P2.sh
    simp only [show ∀ u v d : Int, u + d - (v + d) = u - v from fun _ _ _ => by omega]
  unfold near flatB
  rw [hc]
  unfold btw P2.sh
  simp only [show ∀ u v d : Int, u + d - (v + d) = u - v from fun _ _ _ => by omega]
  congr 1
  · apply decide_eq_decide.2; omega
  · congr 1
    apply decide_eq_decide.2; omega
/-- The curve is flat at n. -/
def Cu.flat (c : Cu) (n : Nat) : Bool := (List.range n).all fun k => near (c.at (2 * k + 1 : Nat) (2 * n : Nat)) (c.at k n) (c.at (k + 1 : Nat) n)
theorem flat_rev (c : Cu) (n : Nat) : c.rev.flat n = c.flat n := by
  unfold Cu.flat
  rw [Bool.eq_iff_iff, List.all_eq_true, List.all_eq_true]
  have key : ∀ k < n, near (c.rev.at (2 * (n - 1 - k) + 1 : Nat) (2 * n : Nat)) (c.rev.at (n - 1 - k : Nat) n) (c.rev.at (n - 1 - k + 1 : Nat) n) = near (c.at (2 * k + 1 : Nat) (2 * n : Nat)) (c.at k n) (c.at (k + 1 : Nat) n) := by
    intro k hk
    rw [show ((2 * (n - 1 - k) + 1 : Nat) : Int) = ((2 * n : Nat) : Int) - ((2 * k + 1 : Nat) : Int) by omega, at_rev,
      show ((n - 1 - k : Nat) : Int) = (n : Int) - ((k + 1 : Nat) : Int) by omega, at_rev, show ((n - 1 - k + 1 : Nat) : Int) = (n : Int) - (k : Int) by omega, at_rev, near_swap]
  constructor
  · intro h k hk
    have hk' := List.mem_range.1 hk
    rw [← key k hk']
    exact h (n - 1 - k) (List.mem_range.2 (by omega))
  · intro h k hk
    have hk' := List.mem_range.1 hk
    have := key (n - 1 - k) (by omega)
    rw [show n - 1 - (n - 1 - k) = k by omega] at this
    rw [this]
    exact h (n - 1 - k) (List.mem_range.2 (by omega))
theorem flat_sh {c : Cu} {n : Nat} (h1 : n ≤ 512) (hw : 16 ≤ c.w ∧ c.w ≤ 4096) (dx dy : Int) : (c.sh dx dy).flat n = c.flat n := by
  unfold Cu.flat
  rw [Bool.eq_iff_iff, List.all_eq_true, List.all_eq_true]
  have key : ∀ k < n, near ((c.sh dx dy).at (2 * k + 1 : Nat) (2 * n : Nat)) ((c.sh dx dy).at k n) ((c.sh dx dy).at (k + 1 : Nat) n) = near (c.at (2 * k + 1 : Nat) (2 * n : Nat)) (c.at k n) (c.at (k + 1 : Nat) n) := by
    intro k hk
    rw [at_sh ⟨by omega, by omega, by omega, by omega, hw.1, hw.2⟩, at_sh ⟨by omega, by omega, by omega, by omega, hw.1, hw.2⟩, at_sh ⟨by omega, by omega, by omega, by omega, hw.1, hw.2⟩, near_sh]
  constructor <;> intro h k hk
  · rw [← key k (List.mem_range.1 hk)]; exact h k hk
  · rw [key k (List.mem_range.1 hk)]; exact h k hk
/-- The least power of two from n on at which p holds, at most f more. -/
def dvF (p : Nat → Bool) : Nat → Nat → Nat
  | 0, n => n
  | f + 1, n => if p n then n else dvF p f (2 * n)
def Cu.dv (c : Cu) : Nat := dvF c.flat 9 1
theorem dvF_congr {p q : Nat → Bool} : ∀ f n, n * 2 ^ f ≤ 512 → (∀ k, k ≤ 512 → p k = q k) → dvF p f n = dvF q f n
  | 0, _, _, _ => rfl
  | f + 1, n, h, hpq => by
    have h2 : 2 * n * 2 ^ f ≤ 512 := by rw [Nat.pow_succ] at h; rw [Nat.mul_assoc, Nat.mul_left_comm, Nat.mul_comm 2]; exact h
    have hn : n ≤ 512 := by
      have : 1 ≤ 2 ^ (f + 1) := Nat.one_le_two_pow
      have := Nat.mul_le_mul_left n this; omega
    unfold dvF
    rw [hpq n hn, dvF_congr f (2 * n) h2 hpq]
theorem dvF_bd (p : Nat → Bool) : ∀ f n, 1 ≤ n → n * 2 ^ f ≤ 512 → 1 ≤ dvF p f n ∧ dvF p f n ≤ 512
  | 0, n, h1, h => by simpa [dvF, h1] using h
  | f + 1, n, h1, h => by
    have h2 : 2 * n * 2 ^ f ≤ 512 := by rw [Nat.pow_succ] at h; rw [Nat.mul_assoc, Nat.mul_left_comm, Nat.mul_comm 2]; exact h
    have hn : n ≤ 512 := by
      have : 1 ≤ 2 ^ (f + 1) := Nat.one_le_two_pow
      have := Nat.mul_le_mul_left n this; omega
    unfold dvF
    split
    · exact ⟨h1, hn⟩
    · exact dvF_bd p f (2 * n) (by omega) h2
theorem dv_bd (c : Cu) : 1 ≤ c.dv ∧ c.dv ≤ 512 := dvF_bd _ 9 1 (by omega) (by decide)
theorem dv_rev (c : Cu) : c.rev.dv = c.dv := dvF_congr 9 1 (by decide) fun k _ => flat_rev c k
theorem dv_sh {c : Cu} (hw : 16 ≤ c.w ∧ c.w ≤ 4096) (dx dy : Int) : (c.sh dx dy).dv = c.dv := dvF_congr 9 1 (by decide) fun k hk => flat_sh hk hw dx dy
/-- The points that replace a curve. -/
def Cu.pts (c : Cu) : List P2 := (List.range c.dv).map fun k => c.at (k + 1 : Nat) c.dv
theorem pts_length (c : Cu) : c.pts.length = c.dv := by simp [Cu.pts]
theorem inK {c : Cu} (hw : 16 ≤ c.w ∧ c.w ≤ 4096) {k n : Nat} (h1 : 1 ≤ n) (h2 : n ≤ 1024) (hk : k ≤ n) : InK c.w k n := ⟨by omega, by omega, by omega, by omega, hw.1, hw.2⟩
theorem at_end {c : Cu} (hw : 16 ≤ c.w ∧ c.w ≤ 4096) {n : Nat} (h1 : 1 ≤ n) (h2 : n ≤ 1024) : c.at n n = c.r := by
  unfold Cu.at
  rw [crd_end _ _ _ _ _ (inK hw h1 h2 (Nat.le_refl n)), crd_end _ _ _ _ _ (inK hw h1 h2 (Nat.le_refl n))]
theorem at_start {c : Cu} (hw : 16 ≤ c.w ∧ c.w ≤ 4096) {n : Nat} (h1 : 1 ≤ n) (h2 : n ≤ 1024) : c.at 0 n = c.p := by
  unfold Cu.at
  have h := inK hw h1 h2 (Nat.zero_le n)
  rw [crd_start _ _ _ _ _ h, crd_start _ _ _ _ _ h]
theorem pts_sh {c : Cu} (hw : 16 ≤ c.w ∧ c.w ≤ 4096) (dx dy : Int) : (c.sh dx dy).pts = c.pts.map (·.sh dx dy) := by
  have hd := dv_bd c
  unfold Cu.pts
  rw [dv_sh hw, List.map_map]
  refine List.map_congr_left fun k hk => ?_
  have := List.mem_range.1 hk
  exact at_sh (inK hw hd.1 (by omega) (by omega)) dx dy
/-- From the beginning over the points: backwards these are the points of the curve that is traversed backwards. -/
theorem pts_rev {c : Cu} (hw : 16 ≤ c.w ∧ c.w ≤ 4096) : (c.p :: c.pts).reverse = c.r :: c.rev.pts := by
  have hd := dv_bd c
  have e : ∀ c' : Cu, (16 ≤ c'.w ∧ c'.w ≤ 4096) → c'.p :: c'.pts = (List.range (c'.dv + 1)).map fun k => c'.at (k : Nat) c'.dv := by
    intro c' hw'
    have hd' := dv_bd c'
    rw [List.range_succ_eq_map, List.map_cons, List.map_map]
    rw [show c'.at ((0 : Nat) : Int) c'.dv = c'.p from at_start hw' hd'.1 (by omega)]
    rfl
  have e2 := e c.rev hw
  rw [show c.rev.p = c.r from rfl, dv_rev] at e2
  rw [e c hw, e2]
  apply List.ext_getElem
  · simp
  · intro i h1 h2
    simp only [List.length_reverse, List.length_map, List.length_range] at h1
    rw [List.getElem_reverse]
    simp only [List.getElem_map, List.getElem_range, List.length_map, List.length_range]
    rw [← at_rev]
    congr 1
    omega
theorem at_hull {c : Cu} {k n : Nat} (hw : 16 ≤ c.w ∧ c.w ≤ 4096) (h1 : 1 ≤ n) (h2 : n ≤ 1024) (hk : k ≤ n) :
    (min (min c.p.x c.q.x) c.r.x ≤ (c.at k n).x ∧ (c.at k n).x ≤ max (max c.p.x c.q.x) c.r.x) ∧ (min (min c.p.y c.q.y) c.r.y ≤ (c.at k n).y ∧ (c.at k n).y ≤ max (max c.p.y c.q.y) c.r.y) :=
  have h := inK (c := c) hw h1 h2 hk
  ⟨⟨crd_ge h (by omega) (by omega) (by omega), crd_le h (by omega) (by omega) (by omega)⟩, ⟨crd_ge h (by omega) (by omega) (by omega), crd_le h (by omega) (by omega) (by omega)⟩⟩
theorem pts_last {c : Cu} (hw : 16 ≤ c.w ∧ c.w ≤ 4096) : c.pts.getLast? = some c.r := by
  have hd := dv_bd c
  obtain ⟨m, hm⟩ : ∃ m, c.dv = m + 1 := ⟨c.dv - 1, by omega⟩
  unfold Cu.pts
  rw [hm, List.range_succ, List.map_append]
  simp only [List.map_cons, List.map_nil, List.getLast?_concat]
  rw [← hm, at_end hw hd.1 (by omega)]
end Go.Proofs.Ytijkoaggcmgjiaa.Co

/- What single operations on ints, points, segments and curves yield; blocks of points and curves. -/
namespace Go.Proofs.Ytijkoaggcmgjiaa.Co
open Go Go.RowKit
set_option linter.unusedVariables false
set_option linter.unusedSimpArgs false

theorem ret1_int {a b : Int} (h : a = b) : Ending.returned (.int .i64 a) = .returned (.int .i64 b) := by rw [h]
theorem ret1_bool {a b : Bool} (h : a = b) : Ending.returned (.bool a) = .returned (.bool b) := by rw [h]
abbrev ptv (p : P2) : Value := pt p.x p.y
abbrev pcel (p : P2) : Array Value := #[.int .i64 p.x, .int .i64 p.y]
abbrev ccel (c : Cu) : Array Value := #[.int .i64 c.p.x, .int .i64 c.p.y, .int .i64 c.q.x, .int .i64 c.q.y, .int .i64 c.r.x, .int .i64 c.r.y, .int .i64 c.w]
abbrev cuv (c : Cu) : Value := .agg (ccel c)
theorem Var.read7 {w : World} {n : Nat} {a b c d e f g : Value} {t : TypeId} (h : Var w n #[a, b, c, d, e, f, g] t) :
    w.cell? ⟨n, 0, none⟩ = some a ∧ w.cell? ⟨n, 1, none⟩ = some b ∧ w.cell? ⟨n, 2, none⟩ = some c ∧ w.cell? ⟨n, 3, none⟩ = some d ∧ w.cell? ⟨n, 4, none⟩ = some e ∧ w.cell? ⟨n, 5, none⟩ = some f ∧ w.cell? ⟨n, 6, none⟩ = some g ∧ ∀ i, w.frozen? ⟨n, i, none⟩ = false :=
  ⟨h.cell 0, h.cell 1, h.cell 2, h.cell 3, h.cell 4, h.cell 5, h.cell 6, h.free⟩

theorem run_max2' (P : Program) (w : World) (a b : Int) : (Builtin.max2 (.int .i64 a) (.int .i64 b)).run P w = .ok (.int .i64 (max a b)) w := by
  have h : (if b > a then b else a) = max a b := by split <;> omega
  show (pure (Value.int .i64 (if b > a then b else a)) : Sem Value).run P w = _
  rw [h]; rfl
theorem run_min2' (P : Program) (w : World) (a b : Int) : (Builtin.min2 (.int .i64 a) (.int .i64 b)).run P w = .ok (.int .i64 (min a b)) w := by
  have h : (if b < a then b else a) = min a b := by split <;> omega
  show (pure (Value.int .i64 (if b < a then b else a)) : Sem Value).run P w = _
  rw [h]; rfl
theorem run_max_int5' (P : Program) (w : World) (ts : Array TypeId) (t : TypeId) (a b c d e : Int) : (Builtin.max_ ts t #[.int .i64 a, .int .i64 b, .int .i64 c, .int .i64 d, .int .i64 e]).run P w = .ok (.int .i64 (max (max (max (max a b) c) d) e)) w := by
  show (List.foldlM Builtin.max2 (Value.int .i64 a) [Value.int .i64 b, Value.int .i64 c, Value.int .i64 d, Value.int .i64 e]).run P w = _
  simp only [List.foldlM_cons, List.foldlM_nil, Sem.run_bind, run_max2', Result.andThen_ok, Sem.run_pure]
theorem run_max_int3' (P : Program) (w : World) (ts : Array TypeId) (t : TypeId) (a b c : Int) : (Builtin.max_ ts t #[.int .i64 a, .int .i64 b, .int .i64 c]).run P w = .ok (.int .i64 (max (max a b) c)) w := by
  show (List.foldlM Builtin.max2 (Value.int .i64 a) [Value.int .i64 b, Value.int .i64 c]).run P w = _
  simp only [List.foldlM_cons, List.foldlM_nil, Sem.run_bind, run_max2', Result.andThen_ok, Sem.run_pure]
theorem run_min_int3' (P : Program) (w : World) (ts : Array TypeId) (t : TypeId) (a b c : Int) : (Builtin.min_ ts t #[.int .i64 a, .int .i64 b, .int .i64 c]).run P w = .ok (.int .i64 (min (min a b) c)) w := by
  show (List.foldlM Builtin.min2 (Value.int .i64 a) [Value.int .i64 b, Value.int .i64 c]).run P w = _
  simp only [List.foldlM_cons, List.foldlM_nil, Sem.run_bind, run_min2', Result.andThen_ok, Sem.run_pure]
theorem run_max_int2' (P : Program) (w : World) (ts : Array TypeId) (t : TypeId) (a b : Int) : (Builtin.max_ ts t #[.int .i64 a, .int .i64 b]).run P w = .ok (.int .i64 (max a b)) w := by
  show (List.foldlM Builtin.max2 (Value.int .i64 a) [Value.int .i64 b]).run P w = _
  simp only [List.foldlM_cons, List.foldlM_nil, Sem.run_bind, run_max2', Result.andThen_ok, Sem.run_pure]
theorem run_min_int2' (P : Program) (w : World) (ts : Array TypeId) (t : TypeId) (a b : Int) : (Builtin.min_ ts t #[.int .i64 a, .int .i64 b]).run P w = .ok (.int .i64 (min a b)) w := by
  show (List.foldlM Builtin.min2 (Value.int .i64 a) [Value.int .i64 b]).run P w = _
  simp only [List.foldlM_cons, List.foldlM_nil, Sem.run_bind, run_min2', Result.andThen_ok, Sem.run_pure]

def Rg (z : Int) : Prop := -9223372036854775808 ≤ z ∧ z ≤ 9223372036854775807
section
variable {ρ : Operand → Value} {dst : Option Tmp} {ty : TypeId} {pos : String} {af : Array Edge} {x y : Operand} {w : World} {gd : Option (Nat × Bool)}
theorem run_add {i j : Int} (hx : ρ x = .int .i64 i) (hy : ρ y = .int .i64 j) (h : Rg (i + j)) :
    (execOp ρ { dst := dst, op := .binOp .add 3 x y 3, type := ty, pos := pos, after := af, guard := gd }).run Try.prog w = .ok (.value (.int .i64 (i + j))) w := by
  have e : IntKind.i64.wrap (i + j) = i + j := by unfold Rg at h; rw [IntKind.wrap_i64]; omega
  go_simp
theorem run_sub {i j : Int} (hx : ρ x = .int .i64 i) (hy : ρ y = .int .i64 j) (h : Rg (i - j)) :
    (execOp ρ { dst := dst, op := .binOp .sub 3 x y 3, type := ty, pos := pos, after := af, guard := gd }).run Try.prog w = .ok (.value (.int .i64 (i - j))) w := by
  have e : IntKind.i64.wrap (i - j) = i - j := by unfold Rg at h; rw [IntKind.wrap_i64]; omega
  go_simp
theorem run_mul {i j : Int} (hx : ρ x = .int .i64 i) (hy : ρ y = .int .i64 j) (h : Rg (i * j)) :
    (execOp ρ { dst := dst, op := .binOp .mul 3 x y 3, type := ty, pos := pos, after := af, guard := gd }).run Try.prog w = .ok (.value (.int .i64 (i * j))) w := by
  have e : IntKind.i64.wrap (i * j) = i * j := by unfold Rg at h; rw [IntKind.wrap_i64]; omega
  go_simp
theorem run_not {b : Bool} (hx : ρ x = .bool b) :
    (execOp ρ { dst := dst, op := .unOp .not 4 x, type := ty, pos := pos, after := af, guard := gd }).run Try.prog w = .ok (.value (.bool (!b))) w := by
  go_simp
theorem run_neg {i : Int} (hx : ρ x = .int .i64 i) (h : Rg (-i)) :
    (execOp ρ { dst := dst, op := .unOp .neg 3 x, type := ty, pos := pos, after := af, guard := gd }).run Try.prog w = .ok (.value (.int .i64 (-i))) w := by
  have e : IntKind.i64.wrap (-i) = -i := by unfold Rg at h; rw [IntKind.wrap_i64]; omega
  go_simp
theorem run_lss {i j : Int} (hx : ρ x = .int .i64 i) (hy : ρ y = .int .i64 j) :
    (execOp ρ { dst := dst, op := .binOp .lss 3 x y 3, type := ty, pos := pos, after := af, guard := gd }).run Try.prog w = .ok (.value (.bool (decide (i < j)))) w := by
  go_simp
theorem run_leq {i j : Int} (hx : ρ x = .int .i64 i) (hy : ρ y = .int .i64 j) :
    (execOp ρ { dst := dst, op := .binOp .leq 3 x y 3, type := ty, pos := pos, after := af, guard := gd }).run Try.prog w = .ok (.value (.bool (decide (i ≤ j)))) w := by
  go_simp
theorem run_gtr {i j : Int} (hx : ρ x = .int .i64 i) (hy : ρ y = .int .i64 j) :
    (execOp ρ { dst := dst, op := .binOp .gtr 3 x y 3, type := ty, pos := pos, after := af, guard := gd }).run Try.prog w = .ok (.value (.bool (decide (i > j)))) w := by
  go_simp
theorem run_geq {i j : Int} (hx : ρ x = .int .i64 i) (hy : ρ y = .int .i64 j) :
    (execOp ρ { dst := dst, op := .binOp .geq 3 x y 3, type := ty, pos := pos, after := af, guard := gd }).run Try.prog w = .ok (.value (.bool (decide (i ≥ j)))) w := by
  go_simp
theorem run_max2 {i0 i1 : Int} (hx : ρ x = .int .i64 i0) (hy : ρ y = .int .i64 i1) :
    (execOp ρ { dst := dst, op := .call { callee := .builtin .max, args := #[x, y], argTypes := #[3, 3] }, type := ty, pos := pos, after := af, guard := gd }).run Try.prog w = .ok (.value (.int .i64 (max i0 i1))) w := by
  have e := run_max_int2' Try.prog w #[3, 3] ty i0 i1
  unfold execOp
  simp only [resolve, invoke, builtin, Sem.run_bind, Sem.run_pure, Result.andThen_ok, List.map_toArray, List.map_cons, List.map_nil, hx, hy, e]
theorem run_min2 {i0 i1 : Int} (hx : ρ x = .int .i64 i0) (hy : ρ y = .int .i64 i1) :
    (execOp ρ { dst := dst, op := .call { callee := .builtin .min, args := #[x, y], argTypes := #[3, 3] }, type := ty, pos := pos, after := af, guard := gd }).run Try.prog w = .ok (.value (.int .i64 (min i0 i1))) w := by
  have e := run_min_int2' Try.prog w #[3, 3] ty i0 i1
  unfold execOp
  simp only [resolve, invoke, builtin, Sem.run_bind, Sem.run_pure, Result.andThen_ok, List.map_toArray, List.map_cons, List.map_nil, hx, hy, e]
theorem run_max3 {i0 i1 i2 : Int} {z : Operand} (hx : ρ x = .int .i64 i0) (hy : ρ y = .int .i64 i1) (hz : ρ z = .int .i64 i2) :
    (execOp ρ { dst := dst, op := .call { callee := .builtin .max, args := #[x, y, z], argTypes := #[3, 3, 3] }, type := ty, pos := pos, after := af, guard := gd }).run Try.prog w = .ok (.value (.int .i64 (max (max i0 i1) i2))) w := by
  have e := run_max_int3' Try.prog w #[3, 3, 3] ty i0 i1 i2
  unfold execOp
  simp only [resolve, invoke, builtin, Sem.run_bind, Sem.run_pure, Result.andThen_ok, List.map_toArray, List.map_cons, List.map_nil, hx, hy, hz, e]
theorem run_min3 {i0 i1 i2 : Int} {z : Operand} (hx : ρ x = .int .i64 i0) (hy : ρ y = .int .i64 i1) (hz : ρ z = .int .i64 i2) :
    (execOp ρ { dst := dst, op := .call { callee := .builtin .min, args := #[x, y, z], argTypes := #[3, 3, 3] }, type := ty, pos := pos, after := af, guard := gd }).run Try.prog w = .ok (.value (.int .i64 (min (min i0 i1) i2))) w := by
  have e := run_min_int3' Try.prog w #[3, 3, 3] ty i0 i1 i2
  unfold execOp
  simp only [resolve, invoke, builtin, Sem.run_bind, Sem.run_pure, Result.andThen_ok, List.map_toArray, List.map_cons, List.map_nil, hx, hy, hz, e]
theorem run_max5 {i0 i1 i2 i3 i4 : Int} {z u v : Operand} (hx : ρ x = .int .i64 i0) (hy : ρ y = .int .i64 i1) (hz : ρ z = .int .i64 i2) (hu : ρ u = .int .i64 i3) (hv : ρ v = .int .i64 i4) :
    (execOp ρ { dst := dst, op := .call { callee := .builtin .max, args := #[x, y, z, u, v], argTypes := #[3, 3, 3, 3, 3] }, type := ty, pos := pos, after := af, guard := gd }).run Try.prog w = .ok (.value (.int .i64 (max (max (max (max i0 i1) i2) i3) i4))) w := by
  have e := run_max_int5' Try.prog w #[3, 3, 3, 3, 3] ty i0 i1 i2 i3 i4
  unfold execOp
  simp only [resolve, invoke, builtin, Sem.run_bind, Sem.run_pure, Result.andThen_ok, List.map_toArray, List.map_cons, List.map_nil, hx, hy, hz, hu, hv, e]
theorem run_fld_pt0 {n j : Nat} (hx : ρ x = .pointer (some ⟨n, j, none⟩)) :
    (execOp ρ { dst := dst, op := .fieldAddr 40 x 0, type := ty, pos := pos, after := af, guard := gd }).run Try.prog w = .ok (.value (.pointer (some ⟨n, j, none⟩))) w := by
  go_simp
theorem run_fld_pt1 {n j : Nat} (hx : ρ x = .pointer (some ⟨n, j, none⟩)) :
    (execOp ρ { dst := dst, op := .fieldAddr 40 x 1, type := ty, pos := pos, after := af, guard := gd }).run Try.prog w = .ok (.value (.pointer (some ⟨n, j + 1, none⟩))) w := by
  go_simp
theorem run_fld_seg0 {n j : Nat} (hx : ρ x = .pointer (some ⟨n, j, none⟩)) :
    (execOp ρ { dst := dst, op := .fieldAddr 97 x 0, type := ty, pos := pos, after := af, guard := gd }).run Try.prog w = .ok (.value (.pointer (some ⟨n, j, none⟩))) w := by
  go_simp
theorem run_fld_seg1 {n j : Nat} (hx : ρ x = .pointer (some ⟨n, j, none⟩)) :
    (execOp ρ { dst := dst, op := .fieldAddr 97 x 1, type := ty, pos := pos, after := af, guard := gd }).run Try.prog w = .ok (.value (.pointer (some ⟨n, j + 1, none⟩))) w := by
  go_simp
theorem run_fld_seg2 {n j : Nat} (hx : ρ x = .pointer (some ⟨n, j, none⟩)) :
    (execOp ρ { dst := dst, op := .fieldAddr 97 x 2, type := ty, pos := pos, after := af, guard := gd }).run Try.prog w = .ok (.value (.pointer (some ⟨n, j + 2, none⟩))) w := by
  go_simp
theorem run_fld_seg3 {n j : Nat} (hx : ρ x = .pointer (some ⟨n, j, none⟩)) :
    (execOp ρ { dst := dst, op := .fieldAddr 97 x 3, type := ty, pos := pos, after := af, guard := gd }).run Try.prog w = .ok (.value (.pointer (some ⟨n, j + 3, none⟩))) w := by
  go_simp
theorem run_fld_seg4 {n j : Nat} (hx : ρ x = .pointer (some ⟨n, j, none⟩)) :
    (execOp ρ { dst := dst, op := .fieldAddr 97 x 4, type := ty, pos := pos, after := af, guard := gd }).run Try.prog w = .ok (.value (.pointer (some ⟨n, j + 4, none⟩))) w := by
  go_simp
theorem run_fld_seg5 {n j : Nat} (hx : ρ x = .pointer (some ⟨n, j, none⟩)) :
    (execOp ρ { dst := dst, op := .fieldAddr 97 x 5, type := ty, pos := pos, after := af, guard := gd }).run Try.prog w = .ok (.value (.pointer (some ⟨n, j + 5, none⟩))) w := by
  go_simp
theorem run_fld_cu0 {n j : Nat} (hx : ρ x = .pointer (some ⟨n, j, none⟩)) :
    (execOp ρ { dst := dst, op := .fieldAddr 149 x 0, type := ty, pos := pos, after := af, guard := gd }).run Try.prog w = .ok (.value (.pointer (some ⟨n, j, none⟩))) w := by
  go_simp
theorem run_fld_cu1 {n j : Nat} (hx : ρ x = .pointer (some ⟨n, j, none⟩)) :
    (execOp ρ { dst := dst, op := .fieldAddr 149 x 1, type := ty, pos := pos, after := af, guard := gd }).run Try.prog w = .ok (.value (.pointer (some ⟨n, j + 2, none⟩))) w := by
  go_simp
theorem run_fld_cu2 {n j : Nat} (hx : ρ x = .pointer (some ⟨n, j, none⟩)) :
    (execOp ρ { dst := dst, op := .fieldAddr 149 x 2, type := ty, pos := pos, after := af, guard := gd }).run Try.prog w = .ok (.value (.pointer (some ⟨n, j + 4, none⟩))) w := by
  go_simp
theorem run_fld_cu3 {n j : Nat} (hx : ρ x = .pointer (some ⟨n, j, none⟩)) :
    (execOp ρ { dst := dst, op := .fieldAddr 149 x 3, type := ty, pos := pos, after := af, guard := gd }).run Try.prog w = .ok (.value (.pointer (some ⟨n, j + 6, none⟩))) w := by
  go_simp
theorem run_buildPt {i j : Int} (hx : ρ x = .int .i64 i) (hy : ρ y = .int .i64 j) :
    (execOp ρ { dst := dst, op := .build 40 #[(0, x), (1, y)], type := ty, pos := pos, after := af, guard := gd }).run Try.prog w = .ok (.value (pt i j)) w := by
  go_simp
theorem run_storePt {B : Nat} {a0 a1 : Int} {u0 u1 : Value} (hp : ρ x = .pointer (some ⟨B, 0, none⟩)) (hq : ρ y = pt a0 a1) (hV : Var w B #[u0, u1] 40) :
    (execOp ρ { dst := dst, op := .store 40 x y, type := ty, pos := pos, after := af, guard := gd }).run Try.prog w = .ok .skip ((w.setCell ⟨B, 0, none⟩ (.int .i64 a0)).setCell ⟨B, 1, none⟩ (.int .i64 a1)) := by
  obtain ⟨q0, q1, qf⟩ := hV.read2
  go_simp
theorem run_loadCu {n : Nat} {c : Cu} (hx : ρ x = .pointer (some ⟨n, 0, none⟩)) (hV : Var w n (ccel c) 149) :
    (execOp ρ { dst := dst, op := .load 149 x, type := ty, pos := pos, after := af, guard := gd }).run Try.prog w = .ok (.value (cuv c)) w := by
  obtain ⟨c0, c1, c2, c3, c4, c5, c6, -⟩ := hV.read7
  go_simp
theorem run_loadPt {n : Nat} {p : P2} (hx : ρ x = .pointer (some ⟨n, 0, none⟩)) (hV : Var w n (pcel p) 40) :
    (execOp ρ { dst := dst, op := .load 40 x, type := ty, pos := pos, after := af, guard := gd }).run Try.prog w = .ok (.value (ptv p)) w := by
  obtain ⟨c0, c1, -⟩ := hV.read2
  go_simp
theorem run_loadSegV {n : Nat} {s : Sg} (hx : ρ x = .pointer (some ⟨n, 0, none⟩)) (hV : Var w n (cel s) 97) :
    (execOp ρ { dst := dst, op := .load 97 x, type := ty, pos := pos, after := af, guard := gd }).run Try.prog w = .ok (.value (seg s)) w := by
  obtain ⟨c0, c1, c2, c3, c4, c5, -⟩ := hV.read6
  go_simp
theorem run_allocPt : (execOp ρ { dst := dst, op := .alloc 40, type := ty, pos := pos, after := af, guard := gd }).run Try.prog w = .ok (.value (.pointer (some ⟨w.heap.size, 0, none⟩))) (w.alloc (.cells #[.int .i64 0, .int .i64 0] 40)) := by
  go_simp
theorem run_call3 {P : Program} {g : FuncId} {ts : Array TypeId} {z : Operand} (hf : ρ (.func g) = .func (.func g) #[] #[]) (he : Enters P g) :
    (execOp ρ { dst := dst, op := .call { callee := .value (.func g), args := #[x, y, z], argTypes := ts }, type := ty, pos := pos, after := af, guard := gd }).run P w = .ok (.enter g #[ρ x, ρ y, ρ z]) w := by
  have e : ∀ args w, (callFunc g args).run P w = .ok (.enter g args) w := he
  go_simp
theorem run_call4 {P : Program} {g : FuncId} {ts : Array TypeId} {z u : Operand} (hf : ρ (.func g) = .func (.func g) #[] #[]) (he : Enters P g) :
    (execOp ρ { dst := dst, op := .call { callee := .value (.func g), args := #[x, y, z, u], argTypes := ts }, type := ty, pos := pos, after := af, guard := gd }).run P w = .ok (.enter g #[ρ x, ρ y, ρ z, ρ u]) w := by
  have e : ∀ args w, (callFunc g args).run P w = .ok (.enter g args) w := he
  go_simp
theorem run_buildCu {x0 x1 x2 x3 : Operand} {p q r : P2} {k : Int} (h0 : ρ x0 = ptv p) (h1 : ρ x1 = ptv q) (h2 : ρ x2 = ptv r) (h3 : ρ x3 = .int .i64 k) :
    (execOp ρ { dst := dst, op := .build 149 #[(0, x0), (1, x1), (2, x2), (3, x3)], type := ty, pos := pos, after := af, guard := gd }).run Try.prog w = .ok (.value (cuv ⟨p, q, r, k⟩)) w := by
  go_simp
theorem run_allocCu : (execOp ρ { dst := dst, op := .alloc 149, type := ty, pos := pos, after := af, guard := gd }).run Try.prog w = .ok (.value (.pointer (some ⟨w.heap.size, 0, none⟩))) (w.alloc (.cells #[.int .i64 0, .int .i64 0, .int .i64 0, .int .i64 0, .int .i64 0, .int .i64 0, .int .i64 0] 149)) := by
  go_simp
theorem run_storeCu {B : Nat} {c : Cu} {u0 u1 u2 u3 u4 u5 u6 : Value} (hp : ρ x = .pointer (some ⟨B, 0, none⟩)) (hq : ρ y = cuv c) (hV : Var w B #[u0, u1, u2, u3, u4, u5, u6] 149) :
    (execOp ρ { dst := dst, op := .store 149 x y, type := ty, pos := pos, after := af, guard := gd }).run Try.prog w = .ok .skip (((((((w.setCell ⟨B, 0, none⟩ (.int .i64 c.p.x)).setCell ⟨B, 1, none⟩ (.int .i64 c.p.y)).setCell ⟨B, 2, none⟩ (.int .i64 c.q.x)).setCell ⟨B, 3, none⟩ (.int .i64 c.q.y)).setCell ⟨B, 4, none⟩ (.int .i64 c.r.x)).setCell ⟨B, 5, none⟩ (.int .i64 c.r.y)).setCell ⟨B, 6, none⟩ (.int .i64 c.w)) := by
  obtain ⟨q0, q1, q2, q3, q4, q5, q6, qf⟩ := hV.read7
  go_simp
theorem run_litPt {a b : Int} (hx : ρ x = pt a b) :
    (execOp ρ { dst := dst, op := .buildSlice 36 1 #[(0, x)], type := ty, pos := pos, after := af, guard := gd }).run Try.prog w = .ok (.value (.slice (some ⟨w.heap.size, 0, none⟩) 1 1)) (w.alloc (.cells #[.int .i64 a, .int .i64 b] 40)) := by
  go_simp
theorem run_indexPt {a : Addr} {j : Int} {n c : Nat} (hx : ρ x = .slice (some a) n c) (hy : ρ y = .int .i64 j) (h0 : 0 ≤ j) (hj : j < (n : Int)) :
    (execOp ρ { dst := dst, op := .indexAddr 36 x y, type := ty, pos := pos, after := af, guard := gd }).run Try.prog w = .ok (.value (.pointer (some (a.add (j.toNat * 2))))) w := by
  go_simp
theorem run_storeRow {B j : Nat} {a b : Int} {cs : Array Value} (hp : ρ x = .pointer (some ⟨B, j, none⟩)) (hq : ρ y = pt a b) (hV : Var w B cs 40) (hj : j + 1 < cs.size) :
    (execOp ρ { dst := dst, op := .store 40 x y, type := ty, pos := pos, after := af, guard := gd }).run Try.prog w = .ok .skip ((w.setCell ⟨B, j, none⟩ (.int .i64 a)).setCell ⟨B, j + 1, none⟩ (.int .i64 b)) := by
  have q0 : w.cell? ⟨B, j, none⟩ = some (cs[j]'(by omega)) := (hV.cell j).trans (Array.getElem?_eq_getElem _)
  have q1 : w.cell? ⟨B, j + 1, none⟩ = some (cs[j + 1]'hj) := (hV.cell (j + 1)).trans (Array.getElem?_eq_getElem _)
  have qf := hV.free
  go_simp
end
section
variable {P : Program} {ops : Array Oper} {s i n : Nat} {C : Bool → World → Prop} {K : (Nat → Value) → Prop} {f : Nat → Value} {d : Tmp} {op : Op} {ty : TypeId} {pos : String} {af : Array Edge} {gd : Option (Nat × Bool)}
/-- An operation that reads. -/
theorem st_read {v : Value} (hs : Nat.beq i s = false) (hd : Nat.blt d n = true) (h : ∀ b w, C b w → (execOp (env f) { dst := some d, op := op, type := ty, pos := pos, after := af, guard := gd }).run P w = .ok (.value v) w) (k : K (upd f d v))
    (hw : Region.wanted { dst := some d, op := op, type := ty, pos := pos, after := af, guard := gd } (yieldE ops f) = true := by exact rfl) : Yields P ops s C n i { dst := some d, op := op, type := ty, pos := pos, after := af, guard := gd } f K :=
  ⟨d, _, rfl, by simpa using hd, .inl ⟨hw, fun b w _ hC => by rw [h b w hC]; exact ⟨flag_same hs hC, rfl⟩⟩, k⟩
end
theorem tail2s {ops : Array Oper} {R : Exit → Act → World → Prop} {a : Act} {w : World} {B : Nat} {p q : Operand} {ty : TypeId} {pos : String} {af : Array Edge} {a0 a1 : Int} {u0 u1 : Value}
    (hp : a.eval p = .pointer (some ⟨B, 0, none⟩)) (hq : a.eval q = pt a0 a1) (hV : Var w B #[u0, u1] 40) (h : R .normal a ((w.setCell ⟨B, 0, none⟩ (.int .i64 a0)).setCell ⟨B, 1, none⟩ (.int .i64 a1))) :
    wpList Try.prog ops R [{ dst := none, op := .store 40 p q, type := ty, pos := pos, after := af, guard := none }] a w :=
  wpList_skip rfl rfl (run_storePt hp hq hV) h
theorem Var.set2 {w : World} {n : Nat} {a b p q : Value} {ty : TypeId} (h : Var w n #[a, b] ty) : Var ((w.setCell ⟨n, 0, none⟩ p).setCell ⟨n, 1, none⟩ q) n #[p, q] ty := ((h.set (i := 0) p).set (i := 1) q)
theorem Var.far2 {w : World} {n m : Nat} {c : Array Value} {ty : TypeId} {p q : Value} (h : Var w n c ty) (hn : n ≠ m) : Var ((w.setCell ⟨m, 0, none⟩ p).setCell ⟨m, 1, none⟩ q) n c ty :=
  (h.far (p := ⟨m, 0, none⟩) hn p).far (p := ⟨m, 1, none⟩) hn q
theorem below_set2 {B : Nat} {w0 w : World} {b : Nat} {p q : Value} (h : Below B w0 w) (hb : B ≤ b) : Below B w0 ((w.setCell ⟨b, 0, none⟩ p).setCell ⟨b, 1, none⟩ q) :=
  (h.setCell (p := ⟨b, 0, none⟩) hb p).setCell (p := ⟨b, 1, none⟩) hb q
theorem load2 {w : World} {B : Nat} {x y : Int} (hV : Var w B #[.int .i64 x, .int .i64 y] 40) : (loadVar 40 ⟨B, 0, none⟩).run Try.prog w = .ok (pt x y) w := by
  obtain ⟨c0, c1, -⟩ := hV.read2
  simp [go_sem, *]
theorem retP {fn : Func} {p : Tmp} {R : Ending → World → Prop} {tmps : Array Value} {w : World} {B : Nat} {x y : Int} (h : fn.results = #[.cell p 40]) (hp : tmps.getD p undef = .pointer (some ⟨B, 0, none⟩))
    (hV : Var w B #[.int .i64 x, .int .i64 y] 40) (hR : R (.returned (pt x y)) w) : bodyPost Try.prog fn R .ret ⟨tmps, []⟩ w :=
  bodyPost_ret (v := pt x y) (by
    show (results fn tmps).run _ w = _
    have e := load2 hV
    have hp' := hp
    rw [Array.getD_eq_getD_getElem?] at hp'
    simp [results, h, hp', asAddr, e]) rfl hR
theorem Var.set7 {w : World} {n : Nat} {a b c d e f g p q r s t u v : Value} {ty : TypeId} (h : Var w n #[a, b, c, d, e, f, g] ty) :
    Var (((((((w.setCell ⟨n, 0, none⟩ p).setCell ⟨n, 1, none⟩ q).setCell ⟨n, 2, none⟩ r).setCell ⟨n, 3, none⟩ s).setCell ⟨n, 4, none⟩ t).setCell ⟨n, 5, none⟩ u).setCell ⟨n, 6, none⟩ v) n #[p, q, r, s, t, u, v] ty := by
  replace h := h.set (i := 0) p
  rw [show (#[a, b, c, d, e, f, g] : Array Value).setIfInBounds 0 p = #[p, b, c, d, e, f, g] from rfl] at h
  replace h := h.set (i := 1) q
  rw [show (#[p, b, c, d, e, f, g] : Array Value).setIfInBounds 1 q = #[p, q, c, d, e, f, g] from rfl] at h
  replace h := h.set (i := 2) r
  rw [show (#[p, q, c, d, e, f, g] : Array Value).setIfInBounds 2 r = #[p, q, r, d, e, f, g] from rfl] at h
  replace h := h.set (i := 3) s
  rw [show (#[p, q, r, d, e, f, g] : Array Value).setIfInBounds 3 s = #[p, q, r, s, e, f, g] from rfl] at h
  replace h := h.set (i := 4) t
  rw [show (#[p, q, r, s, e, f, g] : Array Value).setIfInBounds 4 t = #[p, q, r, s, t, f, g] from rfl] at h
  replace h := h.set (i := 5) u
  rw [show (#[p, q, r, s, t, f, g] : Array Value).setIfInBounds 5 u = #[p, q, r, s, t, u, g] from rfl] at h
  replace h := h.set (i := 6) v
  rw [show (#[p, q, r, s, t, u, g] : Array Value).setIfInBounds 6 v = #[p, q, r, s, t, u, v] from rfl] at h
  exact h
theorem below_set7 {B : Nat} {w0 w : World} {b : Nat} {p q r s t u v : Value} (h : Below B w0 w) (hb : B ≤ b) :
    Below B w0 (((((((w.setCell ⟨b, 0, none⟩ p).setCell ⟨b, 1, none⟩ q).setCell ⟨b, 2, none⟩ r).setCell ⟨b, 3, none⟩ s).setCell ⟨b, 4, none⟩ t).setCell ⟨b, 5, none⟩ u).setCell ⟨b, 6, none⟩ v) :=
  (((((((h.setCell (p := ⟨b, 0, none⟩) hb p).setCell (p := ⟨b, 1, none⟩) hb q).setCell (p := ⟨b, 2, none⟩) hb r).setCell (p := ⟨b, 3, none⟩) hb s).setCell (p := ⟨b, 4, none⟩) hb t).setCell (p := ⟨b, 5, none⟩) hb u).setCell (p := ⟨b, 6, none⟩) hb v)
/-- All blocks but m are as they were. -/
def SameBut (m : Nat) (w w' : World) : Prop := ∀ k, k ≠ m → w'.heap[k]? = w.heap[k]?
theorem SameBut.refl (m : Nat) (w : World) : SameBut m w w := fun _ _ => rfl
theorem SameBut.set {m : Nat} {w w' : World} (h : SameBut m w w') (j : Nat) (u : Value) : SameBut m w (w'.setCell ⟨m, j, none⟩ u) := fun k hk => (Below.heap_setCell _ _ _ _ hk).trans (h k hk)
theorem same2 {w : World} {m j j' : Nat} {p q : Value} : SameBut m w ((w.setCell ⟨m, j, none⟩ p).setCell ⟨m, j', none⟩ q) := ((SameBut.refl m w).set j p).set j' q
theorem same7 {w : World} {m : Nat} {p q r s t u v : Value} :
    SameBut m w (((((((w.setCell ⟨m, 0, none⟩ p).setCell ⟨m, 1, none⟩ q).setCell ⟨m, 2, none⟩ r).setCell ⟨m, 3, none⟩ s).setCell ⟨m, 4, none⟩ t).setCell ⟨m, 5, none⟩ u).setCell ⟨m, 6, none⟩ v) :=
  (((((((SameBut.refl m w).set 0 p).set 1 q).set 2 r).set 3 s).set 4 t).set 5 u).set 6 v
theorem size7 {a : Array Value} (h : a.size = 7) : ∃ u0 u1 u2 u3 u4 u5 u6, a = #[u0, u1, u2, u3, u4, u5, u6] := by
  obtain ⟨l⟩ := a
  match l, h with
  | [a, b, c, d, e, f, g], _ => exact ⟨a, b, c, d, e, f, g, rfl⟩
theorem size2 {a : Array Value} (h : a.size = 2) : ∃ u0 u1, a = #[u0, u1] := by
  obtain ⟨l⟩ := a
  match l, h with
  | [a, b], _ => exact ⟨a, b, rfl⟩

end Go.Proofs.Ytijkoaggcmgjiaa.Co

/- What the functions of a curve return: round, isBetween, isNear, at. -/
namespace Go.Proofs.Ytijkoaggcmgjiaa.Co
open Go Go.RowKit
set_option linter.unusedVariables false
set_option linter.unusedSimpArgs false

theorem tdm (a b : Int) (hb : 1 ≤ b) (h : a < 0) : -(4 * a.tdiv b) ≤ -(4 * a) ∧ a.tdiv b ≤ 0 ∧ a.tmod b ≤ 0 ∧ -b < a.tmod b ∧ a.tmod b = a - b * a.tdiv b ∧
    (a.tmod b < 0 → a / b = a.tdiv b - 1 ∧ a % b = a.tmod b + b) ∧ (¬ a.tmod b < 0 → a / b = a.tdiv b ∧ a % b = a.tmod b) := by
  obtain ⟨n, rfl⟩ : ∃ n : Int, a = -n := ⟨-a, by omega⟩
  have hn : 0 < n := by omega
  rw [Int.neg_tdiv, Int.neg_tmod, Int.tdiv_eq_ediv_of_nonneg (by omega), Int.tmod_eq_emod_of_nonneg (by omega)]
  have e := Int.mul_ediv_add_emod n b
  have r0 := Int.emod_nonneg n (show b ≠ 0 by omega)
  have r1 := Int.emod_lt_of_pos n (show 0 < b by omega)
  have q0 : 0 ≤ n / b := Int.ediv_nonneg (by omega) (by omega)
  have q1 : n / b ≤ n := Int.ediv_le_self _ (by omega)
  have e' : b * (-(n / b)) = -(b * (n / b)) := Int.mul_neg _ _
  refine ⟨by omega, by omega, by omega, by omega, by rw [e']; omega, fun h => ?_, fun h => ?_⟩
  · have u := Int.ediv_emod_unique (a := -n) (b := b) (q := -(n / b) - 1) (r := -(n % b) + b) (by omega)
    obtain ⟨u1, u2⟩ := u.mpr ⟨by rw [Int.mul_sub, e']; omega, by omega, by omega⟩
    exact ⟨u1, u2⟩
  · have u := Int.ediv_emod_unique (a := -n) (b := b) (q := -(n / b)) (r := -(n % b)) (by omega)
    obtain ⟨u1, u2⟩ := u.mpr ⟨by rw [e']; omega, by omega, by omega⟩
    exact ⟨u1, u2⟩
theorem cround_any (a b : Int) (w : World) (hb : 1 ≤ b) (hb2 : b ≤ 281474976710656) (ha1 : -1152921504606846976 ≤ a) (ha2 : a ≤ 1152921504606846976) :
    Calls Try.prog 128 #[.int .i64 a, .int .i64 b] w fun e w' => e = .returned (.int .i64 (rnd a b)) ∧ Below w.heap.size w w' := by
  by_cases ha : 0 ≤ 2 * a + b
  · have q0 : 0 ≤ (2 * a + b) / (2 * b) := Int.ediv_nonneg (by omega) (by omega)
    have r0 : 0 ≤ (2 * a + b) % (2 * b) := Int.emod_nonneg _ (by omega)
    go_enter Try.func128, Try.ntmps128
    go_wp2
    go_region
    all_goals (go_wp2; go_ret; exact ⟨rfl, below_drewN (Below.refl _ w) 1⟩)
  · obtain ⟨b1, b2, b3, b4, -, b5, b6⟩ := tdm (2 * a + b) (2 * b) (by omega) (by omega)
    have B5 := hid b5
    have B6 := hid b6
    clear b5 b6
    go_enter Try.func128, Try.ntmps128
    go_wp2
    go_region
    all_goals go_wp2
    all_goals go_ret
    · exact ⟨ret1_int (B5.out (by assumption)).1.symm, below_drewN (Below.refl _ w) 1⟩
    · exact ⟨ret1_int (B6.out (by omega)).1.symm, below_drewN (Below.refl _ w) 1⟩

theorem btw_any (m a b : Int) (w : World) (hm : -65536 ≤ m ∧ m ≤ 65536) (ha : -65536 ≤ a ∧ a ≤ 65536) (hb : -65536 ≤ b ∧ b ≤ 65536) :
    Calls Try.prog 166 #[.int .i64 m, .int .i64 a, .int .i64 b] w fun e w' => e = .returned (.bool (btw m a b)) ∧ w = w' := by
  obtain ⟨m1, m2⟩ := hm
  obtain ⟨a1, a2⟩ := ha
  obtain ⟨b1, b2⟩ := hb
  go_enter Try.func166, Try.ntmps166
  go_wp2
  all_goals go_ret
  all_goals refine ⟨ret1_bool ?_, rfl⟩
  all_goals (rw [Bool.eq_iff_iff]; unfold btw; simp; try omega)

/-! ### the point at k/n -/
def In3 (p : P2) : Prop := (-32767 ≤ p.x ∧ p.x ≤ 32767) ∧ (-32767 ≤ p.y ∧ p.y ≤ 32767)
structure InC (c : Cu) : Prop where
  p : In3 c.p
  q : In3 c.q
  r : In3 c.r
  w : 16 ≤ c.w ∧ c.w ≤ 4096
theorem at_in {c : Cu} (h : InC c) {k n : Int} (hk : InK c.w k n) : In3 (c.at k n) := by
  obtain ⟨⟨p1, p2⟩, ⟨q1, q2⟩, ⟨r1, r2⟩, -⟩ := h
  exact ⟨⟨crd_ge hk p1.1 q1.1 r1.1, crd_le hk p1.2 q1.2 r1.2⟩, ⟨crd_ge hk p2.1 q2.1 r2.1, crd_le hk p2.2 q2.2 r2.2⟩⟩
theorem mulc {x c X : Int} (hx : 0 ≤ x ∧ x ≤ X) (hc : -32767 ≤ c ∧ c ≤ 32767) : -(X * 32767) ≤ x * c ∧ x * c ≤ X * 32767 := by
  have h1 := Int.mul_le_mul_of_nonneg_left hc.1 hx.1
  have h2 := Int.mul_le_mul_of_nonneg_left hc.2 hx.1
  have h3 := Int.mul_le_mul_of_nonneg_right hx.2 (show (0:Int) ≤ 32767 by omega)
  omega
theorem enters_cround : Enters Try.prog 128 := enters_of Try.func128 (by kernel_rfl) rfl
theorem cround_over {W : World} {u v : Value} {a b : Int} {g : Bool} {w : World} (h : Over W g w) (hu : u = .int .i64 a) (hv : v = .int .i64 b) (hb : 1 ≤ b) (hb2 : b ≤ 281474976710656) (ha1 : -1152921504606846976 ≤ a) (ha2 : a ≤ 1152921504606846976) :
    Calls Try.prog 128 #[u, v] w fun r w' => r = .returned (.int .i64 (rnd a b)) ∧ Over W g w' := by
  subst hu hv
  exact (cround_any a b w hb hb2 ha1 ha2).mono fun r w' ⟨hr, hk⟩ => ⟨hr, h.next hk⟩

set_option maxHeartbeats 1600000 in
set_option maxRecDepth 100000 in
theorem at_any (c : Cu) (k n : Int) (w : World) (hc : InC c) (hk : InK c.w k n) :
    Calls Try.prog 111 #[cuv c, .int .i64 k, .int .i64 n] w fun e w' => e = .returned (pt (c.at k n).x (c.at k n).y) ∧ Below w.heap.size w w' := by
  have b0 := w0_bd hk
  have b1 := w1_bd hk
  have b2 := w2_bd hk
  have b3 := ww_pos hk
  have b5 := w1_bd' hk
  have HC := hid hc
  have HW := hc.w
  obtain ⟨k0, kn, n1, n2, wl, wu⟩ := hk
  have HG := hid (show Rg (n - k) ∧ Rg (256 * (n - k)) ∧ Rg (256 * (n - k) * (n - k)) ∧ Rg (2 * k) ∧ Rg (2 * k * (n - k)) ∧ Rg (2 * k * (n - k) * c.w) ∧ Rg (256 * k) ∧ Rg (256 * k * k) from by
    unfold w0 at b0; unfold w1 at b1; unfold w2 at b2; unfold Rg
    exact ⟨by omega, by omega, by omega, by omega, by omega, by omega, by omega, by omega⟩)
  clear hc b5
  unfold ww at b3
  obtain ⟨A, hA⟩ : ∃ A, A = w0 k n := ⟨_, rfl⟩
  obtain ⟨B, hB⟩ : ∃ B, B = w1 c.w k n := ⟨_, rfl⟩
  obtain ⟨C, hCC⟩ : ∃ C, C = w2 k := ⟨_, rfl⟩
  rw [← hA] at b0 b3; rw [← hB] at b1 b3; rw [← hCC] at b2 b3
  have HE := hid (And.intro hA (And.intro hB hCC))
  clear hA hB hCC
  obtain ⟨W, hW⟩ : ∃ W, W = (w.alloc (.cells (ccel c) 149)).alloc (.cells #[.int .i64 0, .int .i64 0] 40) := ⟨_, rfl⟩
  have HV0 := hid (show Var W w.heap.size (ccel c) 149 by rw [hW]; exact (Var.new w _ _ _ rfl).alloc _)
  have HV1 := hid (show Var W (w.heap.size + 1) #[.int .i64 0, .int .i64 0] 40 by rw [hW]; exact Var.new (w.alloc _) _ _ _ (by simp))
  have HB := hid (show Below w.heap.size w W by rw [hW]; exact below_alloc (below_alloc (Below.refl _ w) _) _)
  go_enter Try.func111, Try.ntmps111
  go_upto_region 1 with fail
  rw [← hW]
  clear hW
  obtain ⟨g1, g2, g3, g4, g5, g6, g7, g8⟩ := HG.out
  have LV0 := fun w1 (h : Below W.heap.size W w1) => HV0.out.next h
  rename_i Kn hKn
  refine Iv.wp_region_inv (n := 76) (TJ [some 11, some 12, some 13, some 14, some 15, some 16, some 17, some 18, some 19, some 20, some 21, some 22, some 23, some 24, some 25, some 26, some 27, some 28, some 29, some 30, some 31, some 7, some 8, some 9]
      [.int .i64 n, .int .i64 k, .int .i64 (n - k), .int .i64 (256 * (n - k)), .int .i64 n, .int .i64 k, .int .i64 (n - k), .int .i64 ((256 * (n - k)) * (n - k)), .int .i64 k, .int .i64 (2 * k), .int .i64 n, .int .i64 k, .int .i64 (n - k), .int .i64 (2 * k * (n - k)), .pointer (some ⟨w.heap.size, 6, none⟩), .int .i64 c.w, .int .i64 ((2 * k * (n - k)) * c.w), .int .i64 k, .int .i64 (256 * k), .int .i64 k, .int .i64 (256 * k * k), .int .i64 ((256 * (n - k)) * (n - k)), .int .i64 ((2 * k * (n - k)) * c.w), .int .i64 (256 * k * k)]
      [(1, .int .i64 k), (2, .int .i64 n), (3, .pointer (some ⟨w.heap.size, 0, none⟩)), (6, .pointer (some ⟨w.heap.size + 1, 0, none⟩))] (MB W [])) _ (by kernel_rfl) (by kernel_rfl) (Is.start _ rfl) ?_ ?_ ?_
  · refine ⟨fun i d _ h => (by cases h), fun q hq => ?_, MB.start W _ _⟩
    simp only [List.mem_cons, List.not_mem_nil, or_false] at hq
    rcases hq with rfl | rfl | rfl | rfl
    all_goals rfl
  · exact ⟨nb_val rfl rfl rfl rfl rfl fun L f wx hL hdep H => congrArg (fun v => Result.ok (Next.value v) wx) (H.x (2, .int .i64 n) (by simp)),
    nb_val rfl rfl rfl rfl rfl fun L f wx hL hdep H => congrArg (fun v => Result.ok (Next.value v) wx) (H.x (1, .int .i64 k) (by simp)),
    nb_val rfl rfl rfl rfl rfl fun L f wx hL hdep H => run_sub (H.t 0 11 rfl (hdep ⟨0, .data⟩ (by simp) rfl)) (H.t 1 12 rfl (hdep ⟨1, .data⟩ (by simp) rfl)) g1,
    nb_val rfl rfl rfl rfl rfl fun L f wx hL hdep H => run_mul rfl (H.t 2 13 rfl (hdep ⟨2, .data⟩ (by simp) rfl)) g2,
    nb_val rfl rfl rfl rfl rfl fun L f wx hL hdep H => congrArg (fun v => Result.ok (Next.value v) wx) (H.x (2, .int .i64 n) (by simp)),
    nb_val rfl rfl rfl rfl rfl fun L f wx hL hdep H => congrArg (fun v => Result.ok (Next.value v) wx) (H.x (1, .int .i64 k) (by simp)),
    nb_val rfl rfl rfl rfl rfl fun L f wx hL hdep H => run_sub (H.t 4 15 rfl (hdep ⟨4, .data⟩ (by simp) rfl)) (H.t 5 16 rfl (hdep ⟨5, .data⟩ (by simp) rfl)) g1,
    nb_val rfl rfl rfl rfl rfl fun L f wx hL hdep H => run_mul (H.t 3 14 rfl (hdep ⟨3, .data⟩ (by simp) rfl)) (H.t 6 17 rfl (hdep ⟨6, .data⟩ (by simp) rfl)) g3,
    nb_val rfl rfl rfl rfl rfl fun L f wx hL hdep H => congrArg (fun v => Result.ok (Next.value v) wx) (H.x (1, .int .i64 k) (by simp)),
    nb_val rfl rfl rfl rfl rfl fun L f wx hL hdep H => run_mul rfl (H.t 8 19 rfl (hdep ⟨8, .data⟩ (by simp) rfl)) g4,
    nb_val rfl rfl rfl rfl rfl fun L f wx hL hdep H => congrArg (fun v => Result.ok (Next.value v) wx) (H.x (2, .int .i64 n) (by simp)),
    nb_val rfl rfl rfl rfl rfl fun L f wx hL hdep H => congrArg (fun v => Result.ok (Next.value v) wx) (H.x (1, .int .i64 k) (by simp)),
    nb_val rfl rfl rfl rfl rfl fun L f wx hL hdep H => run_sub (H.t 10 21 rfl (hdep ⟨10, .data⟩ (by simp) rfl)) (H.t 11 22 rfl (hdep ⟨11, .data⟩ (by simp) rfl)) g1,
    nb_val rfl rfl rfl rfl rfl fun L f wx hL hdep H => run_mul (H.t 9 20 rfl (hdep ⟨9, .data⟩ (by simp) rfl)) (H.t 12 23 rfl (hdep ⟨12, .data⟩ (by simp) rfl)) g5,
    nb_val rfl rfl rfl rfl rfl fun L f wx hL hdep H => run_fld_cu3 (H.x (3, .pointer (some ⟨w.heap.size, 0, none⟩)) (by simp)),
    nb_val rfl rfl rfl rfl rfl fun L f wx hL hdep H => run_load_int (H.t 14 25 rfl (hdep ⟨14, .data⟩ (by simp) rfl)) ((LV0 wx H.m.b).cell 6),
    nb_val rfl rfl rfl rfl rfl fun L f wx hL hdep H => run_mul (H.t 13 24 rfl (hdep ⟨13, .data⟩ (by simp) rfl)) (H.t 15 26 rfl (hdep ⟨15, .data⟩ (by simp) rfl)) g6,
    nb_val rfl rfl rfl rfl rfl fun L f wx hL hdep H => congrArg (fun v => Result.ok (Next.value v) wx) (H.x (1, .int .i64 k) (by simp)),
    nb_val rfl rfl rfl rfl rfl fun L f wx hL hdep H => run_mul rfl (H.t 17 28 rfl (hdep ⟨17, .data⟩ (by simp) rfl)) g7,
    nb_val rfl rfl rfl rfl rfl fun L f wx hL hdep H => congrArg (fun v => Result.ok (Next.value v) wx) (H.x (1, .int .i64 k) (by simp)),
    nb_val rfl rfl rfl rfl rfl fun L f wx hL hdep H => run_mul (H.t 18 29 rfl (hdep ⟨18, .data⟩ (by simp) rfl)) (H.t 19 30 rfl (hdep ⟨19, .data⟩ (by simp) rfl)) g8,
    nb_val rfl rfl rfl rfl rfl fun L f wx hL hdep H => congrArg (fun v => Result.ok (Next.value v) wx) (H.t 7 18 rfl (hdep ⟨7, .data⟩ (by simp) rfl)),
    nb_val rfl rfl rfl rfl rfl fun L f wx hL hdep H => congrArg (fun v => Result.ok (Next.value v) wx) (H.t 16 27 rfl (hdep ⟨16, .data⟩ (by simp) rfl)),
    nb_val rfl rfl rfl rfl rfl fun L f wx hL hdep H => congrArg (fun v => Result.ok (Next.value v) wx) (H.t 20 31 rfl (hdep ⟨20, .data⟩ (by simp) rfl)), trivial⟩
  intro L f act w1 hall H ha
  refine hKn _ _ ?_
  have k1 : f 1 = .int .i64 k := H.x (1, .int .i64 k) (by simp)
  have k2 : f 2 = .int .i64 n := H.x (2, .int .i64 n) (by simp)
  have k3 : f 3 = .pointer (some ⟨w.heap.size, 0, none⟩) := H.x (3, .pointer (some ⟨w.heap.size, 0, none⟩)) (by simp)
  have k6 : f 6 = .pointer (some ⟨w.heap.size + 1, 0, none⟩) := H.x (6, .pointer (some ⟨w.heap.size + 1, 0, none⟩)) (by simp)
  have k7 : f 7 = .int .i64 (A) := (H.t 21 7 rfl (hall 21 (by decide))).trans (by rw [HE.out.1]; rfl)
  have k8 : f 8 = .int .i64 (B) := (H.t 22 8 rfl (hall 22 (by decide))).trans (by rw [HE.out.2.1]; rfl)
  have k9 : f 9 = .int .i64 (C) := (H.t 23 9 rfl (hall 23 (by decide))).trans (by rw [HE.out.2.2]; rfl)
  have HBW := hid H.m.b
  have hw := ha.whole
  rw [show ((List.range 76).map f).toArray = #[f 0, f 1, f 2, f 3, f 4, f 5, f 6, f 7, f 8, f 9, f 10, f 11, f 12, f 13, f 14, f 15, f 16, f 17, f 18, f 19, f 20, f 21, f 22, f 23, f 24, f 25, f 26, f 27, f 28, f 29, f 30, f 31, f 32, f 33, f 34, f 35, f 36, f 37, f 38, f 39, f 40, f 41, f 42, f 43, f 44, f 45, f 46, f 47, f 48, f 49, f 50, f 51, f 52, f 53, f 54, f 55, f 56, f 57, f 58, f 59, f 60, f 61, f 62, f 63, f 64, f 65, f 66, f 67, f 68, f 69, f 70, f 71, f 72, f 73, f 74, f 75] from rfl] at hw
  rw [k1, k2, k3, k6, k7, k8, k9] at hw
  subst hw
  clear ha H hall hKn k1 k2 k3 k6 k7 k8 k9 Kn
  clear L
  have HV01 := hid (HV0.out.next HBW.out)
  have HV11 := hid (HV1.out.next HBW.out)
  have HB1 := hid (below_next HB.out HBW.out)
  clear HBW LV0 g1 g2 g3 g4 g5 g6 g7 g8 HV0 HV1 HB HG
  go_upto_region 3 with fail
  obtain ⟨⟨⟨p1, p2⟩, ⟨p3, p4⟩⟩, ⟨⟨q1, q2⟩, ⟨q3, q4⟩⟩, ⟨⟨r1, r2⟩, ⟨r3, r4⟩⟩, -⟩ := HC.out
  have t1 := mulc b0 ⟨p1, p2⟩
  have t2 := mulc b1 ⟨q1, q2⟩
  have t3 := mulc b2 ⟨r1, r2⟩
  have t4 := mulc b0 ⟨p3, p4⟩
  have t5 := mulc b1 ⟨q3, q4⟩
  have t6 := mulc b2 ⟨r3, r4⟩
  clear p1 p2 p3 p4 q1 q2 q3 q4 r1 r2 r3 r4
  have x0 : Rg (A * c.p.x) := by unfold Rg; omega
  have x1 : Rg (B * c.q.x) := by unfold Rg; omega
  have x2 : Rg (A * c.p.x + B * c.q.x) := by unfold Rg; omega
  have x3 : Rg (C * c.r.x) := by unfold Rg; omega
  have x4 : Rg (A * c.p.x + B * c.q.x + C * c.r.x) := by unfold Rg; omega
  have x5 : -1152921504606846976 ≤ A * c.p.x + B * c.q.x + C * c.r.x ∧ A * c.p.x + B * c.q.x + C * c.r.x ≤ 1152921504606846976 := by omega
  have y0 : Rg (A * c.p.y) := by unfold Rg; omega
  have y1 : Rg (B * c.q.y) := by unfold Rg; omega
  have y2 : Rg (A * c.p.y + B * c.q.y) := by unfold Rg; omega
  have y3 : Rg (C * c.r.y) := by unfold Rg; omega
  have y4 : Rg (A * c.p.y + B * c.q.y + C * c.r.y) := by unfold Rg; omega
  have y5 : -1152921504606846976 ≤ A * c.p.y + B * c.q.y + C * c.r.y ∧ A * c.p.y + B * c.q.y + C * c.r.y ≤ 1152921504606846976 := by omega
  have d0 : 1 ≤ A + B + C ∧ A + B + C ≤ 281474976710656 := by omega
  clear t1 t2 t3 t4 t5 t6
  rename_i Kn hKn
  refine wp_region_fan 39 1000 (Over w1) (by kernel_rfl) (by kernel_rfl) (Over.start w1) ?_
  simp only [List.take_succ_cons, List.take_zero, List.drop_succ_cons, List.drop_zero]
  have L0 := fun b w2 (h : Over w1 b w2) => Over.var HV01.out h
  refine WalksE.sound _ _ _ _ ?_ (((((((Is.start _ (n := 76) rfl).pin 3 (v := .pointer (some ⟨w.heap.size, 0, none⟩)) rfl).pin 6 (v := .pointer (some ⟨w.heap.size + 1, 0, none⟩)) rfl).pin 7 (v := .int .i64 (A)) rfl).pin 8 (v := .int .i64 (B)) rfl).pin 9 (v := .int .i64 (C)) rfl).pin 10 (v := .int .i64 (A + B + C)) rfl)
  generalize (fun i => Array.getD _ i undef) = g
  refine walks_with fun KQ hKQ => ?_
  (refine walks_one fun K hK => ?_); refine st_pure rfl rfl (fun _ => rfl) ?_; refine hK _ ?_; clear hK K
  (refine walks_one fun K hK => ?_); refine st_pure rfl rfl (fun _ => rfl) ?_; refine hK _ ?_; clear hK K
  (refine walks_one fun K hK => ?_); refine st_pure rfl rfl (fun _ => rfl) ?_; refine hK _ ?_; clear hK K
  (refine walks_one fun K hK => ?_); refine st_load L0 rfl rfl rfl rfl ?_; refine hK _ ?_; clear hK K
  (refine walks_one fun K hK => ?_); refine st_pure rfl rfl (fun _ => run_mul rfl rfl x0) ?_; refine hK _ ?_; clear hK K
  (refine walks_one fun K hK => ?_); refine st_pure rfl rfl (fun _ => rfl) ?_; refine hK _ ?_; clear hK K
  (refine walks_one fun K hK => ?_); refine st_pure rfl rfl (fun _ => rfl) ?_; refine hK _ ?_; clear hK K
  (refine walks_one fun K hK => ?_); refine st_pure rfl rfl (fun _ => rfl) ?_; refine hK _ ?_; clear hK K
  (refine walks_one fun K hK => ?_); refine st_load L0 rfl rfl rfl rfl ?_; refine hK _ ?_; clear hK K
  (refine walks_one fun K hK => ?_); refine st_pure rfl rfl (fun _ => run_mul rfl rfl x1) ?_; refine hK _ ?_; clear hK K
  (refine walks_one fun K hK => ?_); refine st_pure rfl rfl (fun _ => run_add rfl rfl x2) ?_; refine hK _ ?_; clear hK K
  (refine walks_one fun K hK => ?_); refine st_pure rfl rfl (fun _ => rfl) ?_; refine hK _ ?_; clear hK K
  (refine walks_one fun K hK => ?_); refine st_pure rfl rfl (fun _ => rfl) ?_; refine hK _ ?_; clear hK K
  (refine walks_one fun K hK => ?_); refine st_pure rfl rfl (fun _ => rfl) ?_; refine hK _ ?_; clear hK K
  (refine walks_one fun K hK => ?_); refine st_load L0 rfl rfl rfl rfl ?_; refine hK _ ?_; clear hK K
  (refine walks_one fun K hK => ?_); refine st_pure rfl rfl (fun _ => run_mul rfl rfl x3) ?_; refine hK _ ?_; clear hK K
  (refine walks_one fun K hK => ?_); refine st_pure rfl rfl (fun _ => run_add rfl rfl x4) ?_; refine hK _ ?_; clear hK K
  (refine walks_one fun K hK => ?_); refine st_pure rfl rfl (fun _ => rfl) ?_; refine hK _ ?_; clear hK K
  (refine walks_one fun K hK => ?_); refine st_call rfl rfl (fun _ => run_call2 rfl enters_cround) (fun _ _ h => cround_over h rfl rfl d0.1 d0.2 x5.1 x5.2) ?_; refine hK _ ?_; clear hK K
  (refine walks_one fun K hK => ?_); refine st_pure rfl rfl (fun _ => rfl) ?_; refine hK _ ?_; clear hK K
  (refine walks_one fun K hK => ?_); refine st_pure rfl rfl (fun _ => rfl) ?_; refine hK _ ?_; clear hK K
  (refine walks_one fun K hK => ?_); refine st_pure rfl rfl (fun _ => rfl) ?_; refine hK _ ?_; clear hK K
  (refine walks_one fun K hK => ?_); refine st_load L0 rfl rfl rfl rfl ?_; refine hK _ ?_; clear hK K
  (refine walks_one fun K hK => ?_); refine st_pure rfl rfl (fun _ => run_mul rfl rfl y0) ?_; refine hK _ ?_; clear hK K
  (refine walks_one fun K hK => ?_); refine st_pure rfl rfl (fun _ => rfl) ?_; refine hK _ ?_; clear hK K
  (refine walks_one fun K hK => ?_); refine st_pure rfl rfl (fun _ => rfl) ?_; refine hK _ ?_; clear hK K
  (refine walks_one fun K hK => ?_); refine st_pure rfl rfl (fun _ => rfl) ?_; refine hK _ ?_; clear hK K
  (refine walks_one fun K hK => ?_); refine st_load L0 rfl rfl rfl rfl ?_; refine hK _ ?_; clear hK K
  (refine walks_one fun K hK => ?_); refine st_pure rfl rfl (fun _ => run_mul rfl rfl y1) ?_; refine hK _ ?_; clear hK K
  (refine walks_one fun K hK => ?_); refine st_pure rfl rfl (fun _ => run_add rfl rfl y2) ?_; refine hK _ ?_; clear hK K
  (refine walks_one fun K hK => ?_); refine st_pure rfl rfl (fun _ => rfl) ?_; refine hK _ ?_; clear hK K
  (refine walks_one fun K hK => ?_); refine st_pure rfl rfl (fun _ => rfl) ?_; refine hK _ ?_; clear hK K
  (refine walks_one fun K hK => ?_); refine st_pure rfl rfl (fun _ => rfl) ?_; refine hK _ ?_; clear hK K
  (refine walks_one fun K hK => ?_); refine st_load L0 rfl rfl rfl rfl ?_; refine hK _ ?_; clear hK K
  (refine walks_one fun K hK => ?_); refine st_pure rfl rfl (fun _ => run_mul rfl rfl y3) ?_; refine hK _ ?_; clear hK K
  (refine walks_one fun K hK => ?_); refine st_pure rfl rfl (fun _ => run_add rfl rfl y4) ?_; refine hK _ ?_; clear hK K
  (refine walks_one fun K hK => ?_); refine st_pure rfl rfl (fun _ => rfl) ?_; refine hK _ ?_; clear hK K
  (refine walks_one fun K hK => ?_); refine st_call rfl rfl (fun _ => run_call2 rfl enters_cround) (fun _ _ h => cround_over h rfl rfl d0.1 d0.2 y5.1 y5.2) ?_; refine hK _ ?_; clear hK K
  (refine walks_one fun K hK => ?_); refine st_pure rfl rfl (fun _ => run_buildPt rfl rfl) ?_; refine hK _ ?_; clear hK K
  refine walks_end fun a9 ha9 => hKQ _ fun w1 hC => ?_
  have e6 : a9.eval (.tmp 6) = .pointer (some ⟨w.heap.size + 1, 0, none⟩) := by rw [ha9.eval]; rfl
  have e75 : a9.eval (.tmp 75) = pt (rnd (A * c.p.x + B * c.q.x + C * c.r.x) (A + B + C)) (rnd (A * c.p.y + B * c.q.y + C * c.r.y) (A + B + C)) := by rw [ha9.eval]; rfl
  refine tail2s e6 e75 (HV11.out.next hC) ?_
  refine hKn _ _ ?_
  obtain ⟨g9, hg9, k6⟩ : ∃ g9, Is a9 76 g9 ∧ g9 6 = .pointer (some ⟨w.heap.size + 1, 0, none⟩) := ⟨_, ha9, rfl⟩
  have hw := hg9.whole
  rw [show ((List.range 76).map g9).toArray = #[g9 0, g9 1, g9 2, g9 3, g9 4, g9 5, g9 6, g9 7, g9 8, g9 9, g9 10, g9 11, g9 12, g9 13, g9 14, g9 15, g9 16, g9 17, g9 18, g9 19, g9 20, g9 21, g9 22, g9 23, g9 24, g9 25, g9 26, g9 27, g9 28, g9 29, g9 30, g9 31, g9 32, g9 33, g9 34, g9 35, g9 36, g9 37, g9 38, g9 39, g9 40, g9 41, g9 42, g9 43, g9 44, g9 45, g9 46, g9 47, g9 48, g9 49, g9 50, g9 51, g9 52, g9 53, g9 54, g9 55, g9 56, g9 57, g9 58, g9 59, g9 60, g9 61, g9 62, g9 63, g9 64, g9 65, g9 66, g9 67, g9 68, g9 69, g9 70, g9 71, g9 72, g9 73, g9 74, g9 75] from rfl] at hw
  rw [k6] at hw
  subst hw
  clear hg9 k6
  have V1 := (HV11.out.next hC).set2 (p := .int .i64 (rnd (A * c.p.x + B * c.q.x + C * c.r.x) (A + B + C))) (q := .int .i64 (rnd (A * c.p.y + B * c.q.y + C * c.r.y) (A + B + C)))
  have B1 := below_set2 (b := w.heap.size + 1) (p := .int .i64 (rnd (A * c.p.x + B * c.q.x + C * c.r.x) (A + B + C))) (q := .int .i64 (rnd (A * c.p.y + B * c.q.y + C * c.r.y) (A + B + C))) (below_next HB1.out hC) (Nat.le_succ _)
  go_wp2_with fail
  refine retP Try.results111 rfl V1 ⟨?_, B1⟩
  obtain ⟨e1, e2, e3⟩ := HE.out
  subst e1 e2 e3
  rfl

end Go.Proofs.Ytijkoaggcmgjiaa.Co

/- What isNear, isFlatAt and division of a curve return. -/
namespace Go.Proofs.Ytijkoaggcmgjiaa.Co
open Go Go.RowKit
set_option linter.unusedVariables false
set_option linter.unusedSimpArgs false

theorem btw_is {m a b : Int} {v : Bool} (h : btw m a b = v) (w : World) (hm : -65536 ≤ m ∧ m ≤ 65536) (ha : -65536 ≤ a ∧ a ≤ 65536) (hb : -65536 ≤ b ∧ b ≤ 65536) :
    Calls Try.prog 166 #[.int .i64 m, .int .i64 a, .int .i64 b] w fun e w' => e = .returned (.bool v) ∧ w = w' := by
  subst h; exact btw_any m a b w hm ha hb
theorem mulb {x y X Y : Int} (hx : -X ≤ x ∧ x ≤ X) (hy : -Y ≤ y ∧ y ≤ Y) : -(X * Y) ≤ x * y ∧ x * y ≤ X * Y := by
  have h1 := Int.mul_nonneg (a := X - x) (b := Y - y) (by omega) (by omega)
  have h2 := Int.mul_nonneg (a := X + x) (b := Y + y) (by omega) (by omega)
  have h3 := Int.mul_nonneg (a := X - x) (b := Y + y) (by omega) (by omega)
  have h4 := Int.mul_nonneg (a := X + x) (b := Y - y) (by omega) (by omega)
  simp only [Int.sub_mul, Int.mul_sub, Int.add_mul, Int.mul_add] at h1 h2 h3 h4
  omega
theorem In3.b {p : P2} (h : In3 p) : (-65536 ≤ p.x ∧ p.x ≤ 65536) ∧ (-65536 ≤ p.y ∧ p.y ≤ 65536) := by
  obtain ⟨⟨h1, h2⟩, ⟨h3, h4⟩⟩ := h; exact ⟨⟨by omega, by omega⟩, ⟨by omega, by omega⟩⟩

theorem near_x (m a b : P2) (w : World) (hm : In3 m) (ha : In3 a) (hb : In3 b) (hx : btw m.x a.x b.x = false) :
    Calls Try.prog 157 #[ptv m, ptv a, ptv b] w fun e w' => e = .returned (.bool false) ∧ Below w.heap.size w w' := by
  have HX := hid hx
  clear hx
  obtain ⟨W, hW⟩ : ∃ W, W = ((w.alloc (.cells (pcel m) 40)).alloc (.cells (pcel a) 40)).alloc (.cells (pcel b) 40) := ⟨_, rfl⟩
  have HM := hid (show Var W w.heap.size (pcel m) 40 by rw [hW]; exact ((Var.new w _ _ _ rfl).alloc _).alloc _)
  have HA := hid (show Var W (w.heap.size + 1) (pcel a) 40 by rw [hW]; exact (Var.new (w.alloc _) _ _ _ (by simp)).alloc _)
  have HD := hid (show Var W (w.heap.size + 1 + 1) (pcel b) 40 by rw [hW]; exact Var.new ((w.alloc _).alloc _) _ _ _ (by simp))
  have HB := hid (show Below w.heap.size w W by rw [hW]; exact below_alloc (below_alloc (below_alloc (Below.refl _ w) _) _) _)
  have BX := fun v w (h : btw m.x a.x b.x = v) => hid (btw_is h w hm.b.1 ha.b.1 hb.b.1)
  have BY := fun v w (h : btw m.y a.y b.y = v) => hid (btw_is h w hm.b.2 ha.b.2 hb.b.2)
  go_enter Try.func157, Try.ntmps157
  go_upto_region 1 with fail
  rw [← hW]
  clear hW
  obtain ⟨m0, m1, mf⟩ := HM.out.read2
  obtain ⟨a0, a1, af⟩ := HA.out.read2
  obtain ⟨b0, b1, bf⟩ := HD.out.read2
  go_wp2_with fail
  (with_reducible refine (BX _ _ HX.out).out.mono ?_); rintro e w1 ⟨rfl, rfl⟩
  go_wp2_with fail
  go_ret
  exact ⟨rfl, HB.out⟩

theorem near_y (m a b : P2) (w : World) (hm : In3 m) (ha : In3 a) (hb : In3 b) (hx : btw m.x a.x b.x = true) (hy : btw m.y a.y b.y = false) :
    Calls Try.prog 157 #[ptv m, ptv a, ptv b] w fun e w' => e = .returned (.bool false) ∧ Below w.heap.size w w' := by
  have HX := hid hx
  have HY := hid hy
  clear hx hy
  obtain ⟨W, hW⟩ : ∃ W, W = ((w.alloc (.cells (pcel m) 40)).alloc (.cells (pcel a) 40)).alloc (.cells (pcel b) 40) := ⟨_, rfl⟩
  have HM := hid (show Var W w.heap.size (pcel m) 40 by rw [hW]; exact ((Var.new w _ _ _ rfl).alloc _).alloc _)
  have HA := hid (show Var W (w.heap.size + 1) (pcel a) 40 by rw [hW]; exact (Var.new (w.alloc _) _ _ _ (by simp)).alloc _)
  have HD := hid (show Var W (w.heap.size + 1 + 1) (pcel b) 40 by rw [hW]; exact Var.new ((w.alloc _).alloc _) _ _ _ (by simp))
  have HB := hid (show Below w.heap.size w W by rw [hW]; exact below_alloc (below_alloc (below_alloc (Below.refl _ w) _) _) _)
  have BX := fun v w (h : btw m.x a.x b.x = v) => hid (btw_is h w hm.b.1 ha.b.1 hb.b.1)
  have BY := fun v w (h : btw m.y a.y b.y = v) => hid (btw_is h w hm.b.2 ha.b.2 hb.b.2)
  go_enter Try.func157, Try.ntmps157
  go_upto_region 1 with fail
  rw [← hW]
  clear hW
  obtain ⟨m0, m1, mf⟩ := HM.out.read2
  obtain ⟨a0, a1, af⟩ := HA.out.read2
  obtain ⟨b0, b1, bf⟩ := HD.out.read2
  go_wp2_with fail
  (with_reducible refine (BX _ _ HX.out).out.mono ?_); rintro e w1 ⟨rfl, rfl⟩
  go_wp2_with fail
  (with_reducible refine (BY _ _ HY.out).out.mono ?_); rintro e w1 ⟨rfl, rfl⟩
  go_wp2_with fail
  go_ret
  exact ⟨rfl, HB.out⟩

set_option maxHeartbeats 1600000 in
set_option maxRecDepth 100000 in
theorem near_z (m a b : P2) (w : World) (hm : In3 m) (ha : In3 a) (hb : In3 b) (hx : btw m.x a.x b.x = true) (hy : btw m.y a.y b.y = true) :
    Calls Try.prog 157 #[ptv m, ptv a, ptv b] w fun e w' => e = .returned (.bool (flatB m a b)) ∧ Below w.heap.size w w' := by
  have HX := hid hx
  have HY := hid hy
  clear hx hy
  obtain ⟨W, hW⟩ : ∃ W, W = ((w.alloc (.cells (pcel m) 40)).alloc (.cells (pcel a) 40)).alloc (.cells (pcel b) 40) := ⟨_, rfl⟩
  have HM := hid (show Var W w.heap.size (pcel m) 40 by rw [hW]; exact ((Var.new w _ _ _ rfl).alloc _).alloc _)
  have HA := hid (show Var W (w.heap.size + 1) (pcel a) 40 by rw [hW]; exact (Var.new (w.alloc _) _ _ _ (by simp)).alloc _)
  have HD := hid (show Var W (w.heap.size + 1 + 1) (pcel b) 40 by rw [hW]; exact Var.new ((w.alloc _).alloc _) _ _ _ (by simp))
  have HB := hid (show Below w.heap.size w W by rw [hW]; exact below_alloc (below_alloc (below_alloc (Below.refl _ w) _) _) _)
  have BX := fun v w (h : btw m.x a.x b.x = v) => hid (btw_is h w hm.b.1 ha.b.1 hb.b.1)
  have BY := fun v w (h : btw m.y a.y b.y = v) => hid (btw_is h w hm.b.2 ha.b.2 hb.b.2)
  go_enter Try.func157, Try.ntmps157
  go_upto_region 1 with fail
  rw [← hW]
  clear hW
  obtain ⟨m0, m1, mf⟩ := HM.out.read2
  obtain ⟨a0, a1, af⟩ := HA.out.read2
  obtain ⟨b0, b1, bf⟩ := HD.out.read2
  go_wp2_with fail
  (with_reducible refine (BX _ _ HX.out).out.mono ?_); rintro e w1 ⟨rfl, rfl⟩
  go_wp2_with fail
  (with_reducible refine (BY _ _ HY.out).out.mono ?_); rintro e w1 ⟨rfl, rfl⟩
  obtain ⟨⟨mx1, mx2⟩, ⟨my1, my2⟩⟩ := hm
  obtain ⟨⟨ax1, ax2⟩, ⟨ay1, ay2⟩⟩ := ha
  obtain ⟨⟨bx1, bx2⟩, ⟨by1, by2⟩⟩ := hb
  have g1 : Rg (b.x - a.x) := by unfold Rg; omega
  have g2 : Rg (b.y - a.y) := by unfold Rg; omega
  clear m0 m1 mf a0 a1 af b0 b1 bf BX BY HX HY
  go_upto_region 3 with fail
  have LV1 := fun w1 (h : Below W.heap.size W w1) => HA.out.next h
  have LV2 := fun w1 (h : Below W.heap.size W w1) => HD.out.next h
  rename_i Kn hKn
  refine Iv.wp_region_inv (n := 65) (TJ [some 28, some 29, some 30, some 31, some 32, some 33, some 34, some 35, some 36, some 37, some 7, some 8]
      [.pointer (some ⟨w.heap.size + 1 + 1, 0, none⟩), .int .i64 b.x, .pointer (some ⟨w.heap.size + 1, 0, none⟩), .int .i64 a.x, .int .i64 (b.x - a.x), .pointer (some ⟨w.heap.size + 1 + 1, 1, none⟩), .int .i64 b.y, .pointer (some ⟨w.heap.size + 1, 1, none⟩), .int .i64 a.y, .int .i64 (b.y - a.y), .int .i64 (b.x - a.x), .int .i64 (b.y - a.y)]
      [(3, .pointer (some ⟨w.heap.size, 0, none⟩)), (4, .pointer (some ⟨w.heap.size + 1, 0, none⟩)), (5, .pointer (some ⟨w.heap.size + 1 + 1, 0, none⟩))] (MB W [])) _ (by kernel_rfl) (by kernel_rfl) (Is.start _ rfl) ?_ ?_ ?_
  · refine ⟨fun i d _ h => (by cases h), fun q hq => ?_, MB.start W _ _⟩
    simp only [List.mem_cons, List.not_mem_nil, or_false] at hq
    rcases hq with rfl | rfl | rfl
    all_goals rfl
  · exact ⟨nb_val rfl rfl rfl rfl rfl fun L f wx hL hdep H => run_fld_pt0 (H.x (5, .pointer (some ⟨w.heap.size + 1 + 1, 0, none⟩)) (by simp)),
    nb_val rfl rfl rfl rfl rfl fun L f wx hL hdep H => run_load_int (H.t 0 28 rfl (hdep ⟨0, .data⟩ (by simp) rfl)) ((LV2 wx H.m.b).cell 0),
    nb_val rfl rfl rfl rfl rfl fun L f wx hL hdep H => run_fld_pt0 (H.x (4, .pointer (some ⟨w.heap.size + 1, 0, none⟩)) (by simp)),
    nb_val rfl rfl rfl rfl rfl fun L f wx hL hdep H => run_load_int (H.t 2 30 rfl (hdep ⟨2, .data⟩ (by simp) rfl)) ((LV1 wx H.m.b).cell 0),
    nb_val rfl rfl rfl rfl rfl fun L f wx hL hdep H => run_sub (H.t 1 29 rfl (hdep ⟨1, .data⟩ (by simp) rfl)) (H.t 3 31 rfl (hdep ⟨3, .data⟩ (by simp) rfl)) g1,
    nb_val rfl rfl rfl rfl rfl fun L f wx hL hdep H => run_fld_pt1 (H.x (5, .pointer (some ⟨w.heap.size + 1 + 1, 0, none⟩)) (by simp)),
    nb_val rfl rfl rfl rfl rfl fun L f wx hL hdep H => run_load_int (H.t 5 33 rfl (hdep ⟨5, .data⟩ (by simp) rfl)) ((LV2 wx H.m.b).cell 1),
    nb_val rfl rfl rfl rfl rfl fun L f wx hL hdep H => run_fld_pt1 (H.x (4, .pointer (some ⟨w.heap.size + 1, 0, none⟩)) (by simp)),
    nb_val rfl rfl rfl rfl rfl fun L f wx hL hdep H => run_load_int (H.t 7 35 rfl (hdep ⟨7, .data⟩ (by simp) rfl)) ((LV1 wx H.m.b).cell 1),
    nb_val rfl rfl rfl rfl rfl fun L f wx hL hdep H => run_sub (H.t 6 34 rfl (hdep ⟨6, .data⟩ (by simp) rfl)) (H.t 8 36 rfl (hdep ⟨8, .data⟩ (by simp) rfl)) g2,
    nb_val rfl rfl rfl rfl rfl fun L f wx hL hdep H => congrArg (fun v => Result.ok (Next.value v) wx) (H.t 4 32 rfl (hdep ⟨4, .data⟩ (by simp) rfl)),
    nb_val rfl rfl rfl rfl rfl fun L f wx hL hdep H => congrArg (fun v => Result.ok (Next.value v) wx) (H.t 9 37 rfl (hdep ⟨9, .data⟩ (by simp) rfl)), trivial⟩
  intro L f act w1 hall H ha
  refine hKn _ _ ?_
  have k3 : f 3 = .pointer (some ⟨w.heap.size, 0, none⟩) := H.x (3, .pointer (some ⟨w.heap.size, 0, none⟩)) (by simp)
  have k4 : f 4 = .pointer (some ⟨w.heap.size + 1, 0, none⟩) := H.x (4, .pointer (some ⟨w.heap.size + 1, 0, none⟩)) (by simp)
  have k5 : f 5 = .pointer (some ⟨w.heap.size + 1 + 1, 0, none⟩) := H.x (5, .pointer (some ⟨w.heap.size + 1 + 1, 0, none⟩)) (by simp)
  have k7 : f 7 = .int .i64 (b.x - a.x) := H.t 10 7 rfl (hall 10 (by decide))
  have k8 : f 8 = .int .i64 (b.y - a.y) := H.t 11 8 rfl (hall 11 (by decide))
  have HBW := hid H.m.b
  have hw := ha.whole
  rw [show ((List.range 65).map f).toArray = #[f 0, f 1, f 2, f 3, f 4, f 5, f 6, f 7, f 8, f 9, f 10, f 11, f 12, f 13, f 14, f 15, f 16, f 17, f 18, f 19, f 20, f 21, f 22, f 23, f 24, f 25, f 26, f 27, f 28, f 29, f 30, f 31, f 32, f 33, f 34, f 35, f 36, f 37, f 38, f 39, f 40, f 41, f 42, f 43, f 44, f 45, f 46, f 47, f 48, f 49, f 50, f 51, f 52, f 53, f 54, f 55, f 56, f 57, f 58, f 59, f 60, f 61, f 62, f 63, f 64] from rfl] at hw
  rw [k3, k4, k5, k7, k8] at hw
  subst hw
  clear ha H hall hKn k3 k4 k5 k7 k8 Kn
  clear L
  have HM1 := hid (HM.out.next HBW.out)
  have HA1 := hid (HA.out.next HBW.out)
  have HB1 := hid (below_next HB.out HBW.out)
  clear HBW LV1 LV2 HM HA HD HB g1 g2
  have u1 := mulb (x := b.x - a.x) (y := m.y - a.y) (X := 65534) (Y := 65534) (by omega) (by omega)
  have u2 := mulb (x := b.y - a.y) (y := m.x - a.x) (X := 65534) (Y := 65534) (by omega) (by omega)
  obtain ⟨m0, m1, mf⟩ := HM1.out.read2
  obtain ⟨a0, a1, af⟩ := HA1.out.read2
  go_upto_region 5 with fail
  clear m0 m1 mf a0 a1 af
  have HC := hid (show flatB m a b = decide (max ((b.x - a.x) * (m.y - a.y) - (b.y - a.y) * (m.x - a.x)) (-((b.x - a.x) * (m.y - a.y) - (b.y - a.y) * (m.x - a.x))) ≤ max (max (max (max (b.x - a.x) (-(b.x - a.x))) (b.y - a.y)) (-(b.y - a.y))) 1) from rfl)
  have hz : -17179869184 ≤ (b.x - a.x) * (m.y - a.y) - (b.y - a.y) * (m.x - a.x) ∧ (b.x - a.x) * (m.y - a.y) - (b.y - a.y) * (m.x - a.x) ≤ 17179869184 := by omega
  generalize (b.x - a.x) * (m.y - a.y) - (b.y - a.y) * (m.x - a.x) = z at HC hz ⊢
  have hd : -65536 ≤ b.x - a.x ∧ b.x - a.x ≤ 65536 := by omega
  have he : -65536 ≤ b.y - a.y ∧ b.y - a.y ≤ 65536 := by omega
  clear u1 u2
  generalize b.x - a.x = d at HC hd ⊢
  generalize b.y - a.y = e at HC he ⊢
  rename_i Kn hKn
  refine wp_region_lit ?_
  refine sq_start (n := 65) rfl fun a0 hs0 => ?_
  have ha0 := ((((((hs0.pin 3 (v := .pointer (some ⟨w.heap.size, 0, none⟩)) rfl).pin 4 (v := .pointer (some ⟨w.heap.size + 1, 0, none⟩)) rfl).pin 5 (v := .pointer (some ⟨w.heap.size + 1 + 1, 0, none⟩)) rfl).pin 7 (v := .int .i64 d) rfl).pin 8 (v := .int .i64 e) rfl).pin 9 (v := .int .i64 z) rfl)
  clear hs0
  generalize (fun i => Array.getD _ i undef) = g0 at ha0
  refine sq_val (v := .int .i64 z) ha0 rfl rfl fun a1 ha1 => ?_
  refine sq_val (v := .int .i64 z) ha1 rfl rfl fun a2 ha2 => ?_
  refine sq_val (v := .int .i64 (-z)) ha2 rfl (run_neg rfl (by unfold Rg; omega)) fun a3 ha3 => ?_
  refine sq_val (v := .int .i64 (max z (-z))) ha3 rfl (run_max2 rfl rfl) fun a4 ha4 => ?_
  refine sq_val (v := .int .i64 d) ha4 rfl rfl fun a5 ha5 => ?_
  refine sq_val (v := .int .i64 d) ha5 rfl rfl fun a6 ha6 => ?_
  refine sq_val (v := .int .i64 (-d)) ha6 rfl (run_neg rfl (by unfold Rg; omega)) fun a7 ha7 => ?_
  refine sq_val (v := .int .i64 e) ha7 rfl rfl fun a8 ha8 => ?_
  refine sq_val (v := .int .i64 e) ha8 rfl rfl fun a9 ha9 => ?_
  refine sq_val (v := .int .i64 (-e)) ha9 rfl (run_neg rfl (by unfold Rg; omega)) fun a10 ha10 => ?_
  refine sq_val (v := .int .i64 (max (max (max (max d (-d)) e) (-e)) 1)) ha10 rfl (run_max5 rfl rfl rfl rfl rfl) fun a11 ha11 => ?_
  refine sq_val (v := .bool (decide ((max z (-z)) ≤ (max (max (max (max d (-d)) e) (-e)) 1)))) ha11 rfl (run_leq rfl rfl) fun a12 ha12 => ?_
  refine sq_val (v := .bool (decide ((max z (-z)) ≤ (max (max (max (max d (-d)) e) (-e)) 1)))) ha12 rfl rfl fun a13 ha13 => ?_
  refine wpList_nil ?_
  refine hKn _ _ ?_
  obtain ⟨g9, hg9, k6⟩ : ∃ g9, Is a13 65 g9 ∧ g9 6 = .bool (decide (max z (-z) ≤ max (max (max (max d (-d)) e) (-e)) 1)) := ⟨_, ha13, rfl⟩
  have hw := hg9.whole
  rw [show ((List.range 65).map g9).toArray = #[g9 0, g9 1, g9 2, g9 3, g9 4, g9 5, g9 6, g9 7, g9 8, g9 9, g9 10, g9 11, g9 12, g9 13, g9 14, g9 15, g9 16, g9 17, g9 18, g9 19, g9 20, g9 21, g9 22, g9 23, g9 24, g9 25, g9 26, g9 27, g9 28, g9 29, g9 30, g9 31, g9 32, g9 33, g9 34, g9 35, g9 36, g9 37, g9 38, g9 39, g9 40, g9 41, g9 42, g9 43, g9 44, g9 45, g9 46, g9 47, g9 48, g9 49, g9 50, g9 51, g9 52, g9 53, g9 54, g9 55, g9 56, g9 57, g9 58, g9 59, g9 60, g9 61, g9 62, g9 63, g9 64] from rfl] at hw
  rw [k6] at hw
  subst hw
  clear hg9 k6
  clear ha0 ha1 ha2 ha3 ha4 ha5 ha6 ha7 ha8 ha9 ha10 ha11 ha12 ha13 hKn Kn
  go_wp2_with fail
  go_ret
  exact ⟨ret1_bool ((decide_eq_decide.2 (by omega)).trans HC.out.symm), HB1.out⟩

theorem near_any (m a b : P2) (w : World) (hm : In3 m) (ha : In3 a) (hb : In3 b) :
    Calls Try.prog 157 #[ptv m, ptv a, ptv b] w fun e w' => e = .returned (.bool (near m a b)) ∧ Below w.heap.size w w' := by
  unfold near
  cases hx : btw m.x a.x b.x
  · exact near_x m a b w hm ha hb hx
  · cases hy : btw m.y a.y b.y
    · exact near_y m a b w hm ha hb hx hy
    · exact near_z m a b w hm ha hb hx hy

end Go.Proofs.Ytijkoaggcmgjiaa.Co
