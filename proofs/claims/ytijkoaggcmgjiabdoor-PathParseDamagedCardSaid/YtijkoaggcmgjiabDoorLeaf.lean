/- Segments as values; blocks, rows of segments; what the small functions of package path and of the reference return. -/
import Derived.Test.YtijkoaggcmgjiabDoorRows
import Derived.WalkKit
import Derived.WalkSpells
import Derived.RegionTactic
import Derived.Deep.QuietTactic
import Derived.BigQuiet
import Derived.Lib.Hide
import Derived.Below
import Derived.Deep.Draws
import Derived.Laws.ResultCell
namespace Go.Proofs.YtijkoaggcmgjiabDoor
open Go Go.RowKit
set_option linter.unusedVariables false

theorem hid {p : Prop} (h : p) : Hid p := h

theorem below_alloc {w W : World} (h : Below w.heap.size w W) (o : Obj) : Below w.heap.size w (W.alloc o) := h.alloc h.size o
theorem below_next {w W w' : World} (h : Below w.heap.size w W) (hb : Below W.heap.size W w') : Below w.heap.size w w' := h.trans (hb.mono h.size)
theorem below_drewN {B : Nat} {a w : World} (h : Below B a w) (n : Nat) : Below B a (w.drewN n) := ⟨h.os, h.tape, h.output, h.size, h.block⟩

/-- A segment. -/
structure Sg where
  k : Int
  x : Int
  y : Int
  u : Int
  v : Int
  w : Int
instance : Inhabited Sg := ⟨⟨0, 0, 0, 0, 0, 0⟩⟩
theorem Sg.ext' {a b : Sg} (h : a.k = b.k ∧ a.x = b.x ∧ a.y = b.y ∧ a.u = b.u ∧ a.v = b.v ∧ a.w = b.w) : a = b := by
  cases a; cases b; simp at h; simp [h]
instance : DecidableEq Sg := fun a b => decidable_of_iff (a.k = b.k ∧ a.x = b.x ∧ a.y = b.y ∧ a.u = b.u ∧ a.v = b.v ∧ a.w = b.w) ⟨Sg.ext', fun h => by subst h; simp⟩
abbrev cel (s : Sg) : Array Value := #[.int .i64 s.k, .int .i64 s.x, .int .i64 s.y, .int .i64 s.u, .int .i64 s.v, .int .i64 s.w]
abbrev seg (s : Sg) : Value := .agg (cel s)
abbrev pt (x y : Int) : Value := .agg #[.int .i64 x, .int .i64 y]
abbrev mx (a b c d e f : Int) : Value := .agg #[.int .i64 a, .int .i64 b, .int .i64 c, .int .i64 d, .int .i64 e, .int .i64 f]

/-- The cells of a segment at an address. -/
structure SegAt (W : World) (a : Addr) (s : Sg) : Prop where
  c0 : W.cell? a = some (.int .i64 s.k)
  c1 : W.cell? ⟨a.block, a.off + 1, none⟩ = some (.int .i64 s.x)
  c2 : W.cell? ⟨a.block, a.off + 2, none⟩ = some (.int .i64 s.y)
  c3 : W.cell? ⟨a.block, a.off + 3, none⟩ = some (.int .i64 s.u)
  c4 : W.cell? ⟨a.block, a.off + 4, none⟩ = some (.int .i64 s.v)
  c5 : W.cell? ⟨a.block, a.off + 5, none⟩ = some (.int .i64 s.w)
/-- A row of segments from an address on. -/
def Row (W : World) (a : Addr) (ss : List Sg) : Prop := ∀ i s, ss[i]? = some s → SegAt W (a.add (i * 6)) s
/-- A slice that holds segments, nil and empty ones too. -/
def Segs (W : World) (A : Option Addr) (ss : List Sg) : Prop := ss ≠ [] → ∃ a, A = some a ∧ a.block < W.heap.size ∧ Row W a ss

theorem add_block (a : Addr) (n : Nat) : (a.add n).block = a.block := by unfold Addr.add; split <;> rfl
theorem add_add' (a : Addr) (i j : Nat) : (a.add i).add j = a.add (i + j) := by
  unfold Addr.add
  by_cases hi : i = 0 <;> by_cases hj : j = 0 <;> simp [hi, hj, Nat.add_assoc]
theorem SegAt.below {W W' : World} {B : Nat} {a : Addr} {s : Sg} (h : SegAt W a s) (hb : Below B W W') (hl : a.block < B) : SegAt W' a s := by
  have e : ∀ n, W'.cell? ⟨a.block, a.off + n, none⟩ = W.cell? ⟨a.block, a.off + n, none⟩ := fun n => hb.cell hl
  exact ⟨(hb.cell hl).trans h.c0, (e 1).trans h.c1, (e 2).trans h.c2, (e 3).trans h.c3, (e 4).trans h.c4, (e 5).trans h.c5⟩
theorem Row.below {W W' : World} {B : Nat} {a : Addr} {ss : List Sg} (h : Row W a ss) (hb : Below B W W') (hl : a.block < B) : Row W' a ss :=
  fun i s hs => (h i s hs).below hb (by rw [add_block]; exact hl)
theorem Segs.next {W W' : World} {A : Option Addr} {ss : List Sg} (h : Segs W A ss) (hb : Below W.heap.size W W') : Segs W' A ss := fun hn => by
  obtain ⟨a, rfl, hl, hr⟩ := h hn
  exact ⟨a, rfl, Nat.lt_of_lt_of_le hl hb.size, hr.below hb hl⟩
theorem Segs.nil (W : World) (A : Option Addr) : Segs W A [] := fun h => absurd rfl h
theorem Segs.at_ {W : World} {A : Option Addr} {ss : List Sg} (h : Segs W A ss) {i : Nat} (hi : i < ss.length) : ∃ a, A = some a ∧ a.block < W.heap.size ∧ SegAt W (a.add (i * 6)) ss[i] := by
  obtain ⟨a, rfl, hl, hr⟩ := h (by intro e; subst e; simp at hi)
  exact ⟨a, rfl, hl, hr i _ (List.getElem?_eq_getElem hi)⟩

/-- Block b has just these cells. -/
def Var (w : World) (b : Nat) (c : Array Value) (t : TypeId) : Prop := w.heap[b]? = some (.cells c t (0, 0))
theorem Var.lt {w : World} {b : Nat} {c : Array Value} {t : TypeId} (h : Var w b c t) : b < w.heap.size := by
  rcases Nat.lt_or_ge b w.heap.size with h1 | h1
  · exact h1
  · unfold Var at h; rw [Array.getElem?_eq_none h1] at h; cases h
theorem Var.cell {w : World} {b : Nat} {c : Array Value} {t : TypeId} (h : Var w b c t) (i : Nat) : w.cell? ⟨b, i, none⟩ = c[i]? := by unfold Var at h; simp [World.cell?, h]
theorem Var.free {w : World} {b : Nat} {c : Array Value} {t : TypeId} (h : Var w b c t) (i : Nat) : w.frozen? ⟨b, i, none⟩ = false := by unfold Var at h; simp [World.frozen?, h]
theorem Var.new (w : World) (c : Array Value) (t : TypeId) (n : Nat) (hn : n = w.heap.size) : Var (w.alloc (.cells c t)) n c t := by
  subst hn
  show (w.heap.push _)[w.heap.size]? = _
  simp
theorem Var.keep {w w' : World} {b : Nat} {c : Array Value} {t : TypeId} (h : Var w b c t) (hk : w'.heap[b]? = w.heap[b]?) : Var w' b c t := hk.trans h
theorem Var.alloc {w : World} {b : Nat} {c : Array Value} {t : TypeId} (h : Var w b c t) (o : Obj) : Var (w.alloc o) b c t := h.keep (Below.heap_alloc _ _ _ h.lt)
theorem Var.drew {w : World} {b : Nat} {c : Array Value} {t : TypeId} (h : Var w b c t) : Var w.drew b c t := h
theorem Var.drewN {w : World} {b : Nat} {c : Array Value} {t : TypeId} (h : Var w b c t) (n : Nat) : Var (w.drewN n) b c t := h
theorem Var.below {w w' : World} {B b : Nat} {c : Array Value} {t : TypeId} (h : Var w b c t) (hb : Below B w w') (hlt : b < B) : Var w' b c t := h.keep (hb.block b hlt)
theorem Var.next {w w' : World} {b : Nat} {c : Array Value} {t : TypeId} (h : Var w b c t) (hb : Below w.heap.size w w') : Var w' b c t := h.below hb h.lt
theorem Var.far {w : World} {b : Nat} {c : Array Value} {t : TypeId} (h : Var w b c t) {p : Addr} (hp : b ≠ p.block) (u : Value) : Var (w.setCell p u) b c t := h.keep (Below.heap_setCell _ _ _ _ hp)
theorem Var.set {w : World} {b i : Nat} {c : Array Value} {t : TypeId} (h : Var w b c t) (u : Value) : Var (w.setCell ⟨b, i, none⟩ u) b (c.setIfInBounds i u) t := by
  unfold Var at h ⊢
  simp [World.setCell, Array.getElem?_modify, h]
theorem Var.read6 {w : World} {n : Nat} {a b c d e f : Value} {t : TypeId} (h : Var w n #[a, b, c, d, e, f] t) :
    w.cell? ⟨n, 0, none⟩ = some a ∧ w.cell? ⟨n, 1, none⟩ = some b ∧ w.cell? ⟨n, 2, none⟩ = some c ∧ w.cell? ⟨n, 3, none⟩ = some d ∧ w.cell? ⟨n, 4, none⟩ = some e ∧ w.cell? ⟨n, 5, none⟩ = some f ∧ ∀ i, w.frozen? ⟨n, i, none⟩ = false :=
  ⟨h.cell 0, h.cell 1, h.cell 2, h.cell 3, h.cell 4, h.cell 5, h.free⟩
theorem Var.read2 {w : World} {n : Nat} {a b : Value} {t : TypeId} (h : Var w n #[a, b] t) :
    w.cell? ⟨n, 0, none⟩ = some a ∧ w.cell? ⟨n, 1, none⟩ = some b ∧ ∀ i, w.frozen? ⟨n, i, none⟩ = false :=
  ⟨h.cell 0, h.cell 1, h.free⟩
theorem Var.set6 {w : World} {n : Nat} {a b c d e f p q r s t u : Value} {ty : TypeId} (h : Var w n #[a, b, c, d, e, f] ty) :
    Var ((((((w.setCell ⟨n, 0, none⟩ p).setCell ⟨n, 1, none⟩ q).setCell ⟨n, 2, none⟩ r).setCell ⟨n, 3, none⟩ s).setCell ⟨n, 4, none⟩ t).setCell ⟨n, 5, none⟩ u) n #[p, q, r, s, t, u] ty :=
  ((((((h.set (i := 0) p).set (i := 1) q).set (i := 2) r).set (i := 3) s).set (i := 4) t).set (i := 5) u)
theorem below_set6 {w0 w : World} {b : Nat} {p q r s t u : Value} (h : Below w0.heap.size w0 w) (hb : w0.heap.size ≤ b) :
    Below w0.heap.size w0 ((((((w.setCell ⟨b, 0, none⟩ p).setCell ⟨b, 1, none⟩ q).setCell ⟨b, 2, none⟩ r).setCell ⟨b, 3, none⟩ s).setCell ⟨b, 4, none⟩ t).setCell ⟨b, 5, none⟩ u) :=
  (((((h.setCell (p := ⟨b, 0, none⟩) hb p).setCell (p := ⟨b, 1, none⟩) hb q).setCell (p := ⟨b, 2, none⟩) hb r).setCell (p := ⟨b, 3, none⟩) hb s).setCell (p := ⟨b, 4, none⟩) hb t).setCell (p := ⟨b, 5, none⟩) hb u

/-! ### numbers within a bound -/
def Wi (m : Int) (zs : List Int) : Prop := ∀ i, i < zs.length → -m ≤ zs.getD i 0 ∧ zs.getD i 0 ≤ m
def Lies (w : World) (b off : Nat) (zs : List Int) : Prop := ∀ i, i < zs.length → w.cell? ⟨b, off + i, none⟩ = some (.int .i64 (zs.getD i 0))

set_option maxHeartbeats 400000 in
theorem within_yes (m : Int) (zs : List Int) (b off cap : Nat) (w : World) (hm : 0 ≤ m ∧ m ≤ 268435456) (hl : zs.length ≤ 4)
    (hc : Lies w b off zs) (hr : Wi m zs) :
    Calls Tryd.prog 19 #[.int .i64 m, .slice (some ⟨b, off, none⟩) zs.length cap] w fun e w' => e = .returned (.bool true) ∧ w = w' := by
  have HC := hid hc
  have HR := hid hr
  obtain ⟨m1, m2⟩ := hm
  clear hc hr
  go_enter Tryd.func19, Tryd.ntmps19
  go_wp2
  go_loop [9] (fun i => ∃ k : Nat, k ≤ zs.length ∧ i = .int .i64 k) (fun i => zs.length - (intOf i).toNat)
  case atStart => exact ⟨0, Nat.zero_le _, rfl⟩
  case round =>
    obtain ⟨k, hk, rfl⟩ := hrel
    by_cases hlt : k < zs.length
    · have hcell := HC.out k hlt
      have h1 := (HR.out k hlt).1
      have h2 := (HR.out k hlt).2
      clear HC HR
      generalize zs.getD k 0 = x at hcell h1 h2
      go_wp2
      go_round
      case rel => exact ⟨k + 1, by omega, by go_num⟩
      case measure => simp [intOf]; omega
    · go_wp2
      go_ret
      exact ⟨rfl, rfl⟩

set_option maxHeartbeats 400000 in
theorem within_no (m : Int) (zs : List Int) (b off cap : Nat) (w : World) (hm : 0 ≤ m ∧ m ≤ 268435456) (hl : zs.length ≤ 4)
    (hc : Lies w b off zs) (hr : ¬ Wi m zs) :
    Calls Tryd.prog 19 #[.int .i64 m, .slice (some ⟨b, off, none⟩) zs.length cap] w fun e w' => e = .returned (.bool false) ∧ w = w' := by
  have HC := hid hc
  have HR := hid hr
  obtain ⟨m1, m2⟩ := hm
  clear hc hr
  go_enter Tryd.func19, Tryd.ntmps19
  go_wp2
  go_loop [9] (fun i => ∃ k : Nat, k ≤ zs.length ∧ i = .int .i64 k ∧ Hid (∀ j, j < k → -m ≤ zs.getD j 0 ∧ zs.getD j 0 ≤ m)) (fun i => zs.length - (intOf i).toNat)
  case atStart => exact ⟨0, Nat.zero_le _, rfl, hid (fun j hj => absurd hj (Nat.not_lt_zero j))⟩
  case round =>
    obtain ⟨k, hk, rfl, hp⟩ := hrel
    by_cases hlt : k < zs.length
    · have hcell := HC.out k hlt
      by_cases hin : -m ≤ zs.getD k 0 ∧ zs.getD k 0 ≤ m
      · have h1 := hin.1
        have h2 := hin.2
        have HIN := hid hin
        clear hin
        generalize zs.getD k 0 = x at hcell h1 h2
        go_wp2
        go_round
        case rel => exact ⟨k + 1, by omega, by go_num, hid (fun j hj => by
          by_cases e : j = k
          · subst e; exact HIN.out
          · exact hp.out j (by omega))⟩
        case measure => simp [intOf]; omega
      · clear HC HR hp
        generalize zs.getD k 0 = x at hcell hin
        by_cases hlo : x < -m
        · clear hin
          go_wp2
          go_ret
          exact ⟨rfl, rfl⟩
        · have hhi : m < x := by omega
          clear hin
          go_wp2
          go_ret
          exact ⟨rfl, rfl⟩
    · exact absurd (fun i hi => hp.out i (by omega)) HR.out

instance (m : Int) (zs : List Int) : Decidable (Wi m zs) := inferInstanceAs (Decidable (∀ i, i < zs.length → _))
theorem within_any (m : Int) (zs : List Int) (b off cap n : Nat) (w : World) (hm : 0 ≤ m ∧ m ≤ 268435456) (hl : zs.length ≤ 4) (hn : n = zs.length)
    (hc : Lies w b off zs) : Calls Tryd.prog 19 #[.int .i64 m, .slice (some ⟨b, off, none⟩) n cap] w fun e w' => e = .returned (.bool (decide (Wi m zs))) ∧ w = w' := by
  subst hn
  by_cases h : Wi m zs
  · rw [decide_eq_true h]; exact within_yes m zs b off cap w hm hl hc h
  · rw [decide_eq_false h]; exact within_no m zs b off cap w hm hl hc h
theorem wi4 {m a b c d : Int} : Wi m [a, b, c, d] ↔ (-m ≤ a ∧ a ≤ m) ∧ (-m ≤ b ∧ b ≤ m) ∧ (-m ≤ c ∧ c ≤ m) ∧ (-m ≤ d ∧ d ≤ m) :=
  ⟨fun h => ⟨h 0 (by simp), h 1 (by simp), h 2 (by simp), h 3 (by simp)⟩, fun h i hi => match i, hi with
    | 0, _ => h.1
    | 1, _ => h.2.1
    | 2, _ => h.2.2.1
    | 3, _ => h.2.2.2⟩
theorem wi1 {m a : Int} : Wi m [a] ↔ (-m ≤ a ∧ a ≤ m) :=
  ⟨fun h => h 0 (by simp), fun h i hi => match i, hi with
    | 0, _ => h⟩
theorem Var.lies4 {w : World} {n : Nat} {a b c d : Int} {t : TypeId} (h : Var w n #[.int .i64 a, .int .i64 b, .int .i64 c, .int .i64 d] t) : Lies w n 0 [a, b, c, d] := by
  intro i hi
  rw [h.cell]
  match i, hi with
  | 0, _ => rfl
  | 1, _ => rfl
  | 2, _ => rfl
  | 3, _ => rfl
theorem Var.lies1 {w : World} {n : Nat} {a : Int} {t : TypeId} (h : Var w n #[.int .i64 a] t) : Lies w n 0 [a] := by
  intro i hi
  rw [h.cell]
  match i, hi with
  | 0, _ => rfl

/-! ### meaning -/
/-- The segment without the fields that have no meaning for its kind. -/
def mean (s : Sg) : Sg := if s.k = 3 then s else if s.k = 4 then ⟨s.k, 0, 0, 0, 0, 0⟩ else ⟨s.k, s.x, s.y, 0, 0, 0⟩

theorem load6 {w : World} {B : Nat} {s : Sg} (hV : Var w B (cel s) 38) : (loadVar 38 ⟨B, 0, none⟩).run Tryd.prog w = .ok (seg s) w := by
  obtain ⟨c0, c1, c2, c3, c4, c5, -⟩ := hV.read6
  simp [go_sem, *]
theorem ret6 {fn : Func} {p : Tmp} {R : Ending → World → Prop} {tmps : Array Value} {w : World} {B : Nat} {s : Sg} (h : fn.results = #[.cell p 38]) (hp : tmps.getD p undef = .pointer (some ⟨B, 0, none⟩))
    (hV : Var w B (cel s) 38) (hR : R (.returned (seg s)) w) : bodyPost Tryd.prog fn R .ret ⟨tmps, []⟩ w :=
  bodyPost_ret (v := seg s) (by
    show (results fn tmps).run _ w = _
    have e := load6 hV
    have hp' := hp
    rw [Array.getD_eq_getD_getElem?] at hp'
    simp [results, h, hp', asAddr, e]) rfl hR

theorem meaning_any (s : Sg) (w : World) : Calls Tryd.prog 35 #[seg s] w fun e w' => e = .returned (seg (mean s)) ∧ Below w.heap.size w w' := by
  obtain ⟨k, x, y, u, v, z⟩ := s
  by_cases h3 : k = 3
  · subst h3
    rw [show mean _ = _ from rfl]
    go_enter Tryd.func35, Tryd.ntmps35
    go_wp2
    exact ret6 (s := ⟨3, x, y, u, v, z⟩) Tryd.results35 rfl (Var.new (w.alloc _) _ _ (w.heap.size + 1) (by simp)) ⟨rfl, below_alloc (below_alloc (Below.refl _ w) _) _⟩
  by_cases h4 : k = 4
  · subst h4
    rw [show mean _ = _ from rfl]
    go_enter Tryd.func35, Tryd.ntmps35
    go_wp2
    exact ret6 (s := ⟨4, 0, 0, 0, 0, 0⟩) Tryd.results35 rfl (Var.new (w.alloc _) _ _ (w.heap.size + 1) (by simp)) ⟨rfl, below_alloc (below_alloc (Below.refl _ w) _) _⟩
  · rw [show mean ⟨k, x, y, u, v, z⟩ = ⟨k, x, y, 0, 0, 0⟩ from (if_neg h3).trans (if_neg h4)]
    go_enter Tryd.func35, Tryd.ntmps35
    go_wp2
    exact ret6 (s := ⟨k, x, y, 0, 0, 0⟩) Tryd.results35 rfl (Var.new (w.alloc _) _ _ (w.heap.size + 1) (by simp)) ⟨rfl, below_alloc (below_alloc (Below.refl _ w) _) _⟩

end Go.Proofs.YtijkoaggcmgjiabDoor
