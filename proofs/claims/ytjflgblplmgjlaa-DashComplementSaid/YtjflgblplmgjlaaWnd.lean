/- Edges of closed lines, their crossings and the winding numbers: lists and numbers alone. -/
import Derived.Test.YtjflgblplmgjlaaLns
namespace Go.Proofs.Ytjflgblplmgjlaa
open Go Go.RowKit
set_option linter.unusedVariables false

abbrev Ed := P2 × P2
def edgF (f : P2) : P2 → List P2 → List Ed
  | p, [] => [(p, f)]
  | p, q :: t => (p, q) :: edgF f q t
/-- The edges of a closed line. -/
def edgs : List P2 → List Ed
  | [] => []
  | p :: t => edgF p p t
theorem edgF_len (f : P2) : ∀ (t : List P2) (p : P2), (edgF f p t).length = t.length + 1
  | [], _ => rfl
  | q :: t, _ => by show (edgF f q t).length + 1 = _; rw [edgF_len f t q]; rfl
theorem edgs_len (ps : List P2) : (edgs ps).length = ps.length := by
  cases ps with
  | nil => rfl
  | cons p t => exact edgF_len p t p
theorem edgF_get (f : P2) : ∀ (t : List P2) (p : P2) (i : Nat), i ≤ t.length → (edgF f p t)[i]? = some ((p :: t).getD i default, (t ++ [f]).getD i default)
  | [], p, i, h => by
    obtain rfl : i = 0 := by simpa using h
    rfl
  | q :: t, p, 0, _ => rfl
  | q :: t, p, i + 1, h => by
    show (edgF f q t)[i]? = _
    rw [edgF_get f t q i (by simpa using h)]
    rfl
theorem edgs_get {ps : List P2} {i : Nat} (h : i < ps.length) : (edgs ps)[i]? = some (ps.getD i default, ps.getD ((i + 1) % ps.length) default) := by
  cases ps with
  | nil => simp at h
  | cons p t =>
    have h' : i ≤ t.length := by simpa [Nat.lt_succ_iff] using h
    show (edgF p p t)[i]? = _
    rw [edgF_get p t p i h']
    congr 2
    rcases Nat.lt_or_ge i t.length with k | k
    · rw [show (i + 1) % (p :: t).length = i + 1 from Nat.mod_eq_of_lt (by simp; omega)]
      simp [List.getD_eq_getElem?_getD, List.getElem?_append_left k]
    · obtain rfl : i = t.length := by omega
      rw [show (t.length + 1) % (p :: t).length = 0 by simp]
      simp [List.getD_eq_getElem?_getD]
/-- All edges of lines. -/
def edgesL (ls : List Ln) : List Ed := ls.flatMap fun l => edgs l.ps
theorem edgesL_at {ls : List Ln} {i : Nat} (h : i < ls.length) : edgesL (ls.drop i) = edgs ls[i].ps ++ edgesL (ls.drop (i + 1)) := by
  rw [List.drop_eq_getElem_cons h]
  unfold edgesL
  rw [List.flatMap_cons]

/-- An edge whose ends are in the order of their rows. -/
structure Sl where
  t : P2
  b : P2
  d : Int
instance : Inhabited Sl := ⟨⟨default, default, 0⟩⟩
def slp (p q : P2) : Sl := if p.y ≤ q.y then ⟨p, q, 1⟩ else ⟨q, p, -1⟩
def Sl.h (s : Sl) : Int := s.b.y - s.t.y
def Sl.hit (s : Sl) (y : Int) : Bool := decide (s.t.y ≤ y ∧ y < s.b.y)
def Sl.num (s : Sl) (y : Int) : Int := 2 * s.h * s.t.x + (s.b.x - s.t.x) * (2 * y + 1 - 2 * s.t.y)
def Sl.cell (s : Sl) (y : Int) : Int := -((2 * (-s.num y) + 2 * s.h) / (2 * (2 * s.h)))
theorem Sl.hit_h {s : Sl} {y : Int} (h : s.hit y = true) : 0 < s.h := by
  unfold Sl.hit at h; unfold Sl.h; simp at h; omega
theorem Sl.cell_le {s : Sl} {x y : Int} (hh : 0 < s.h) : s.cell y ≤ x ↔ s.num y ≤ (2 * x + 1) * s.h := by
  unfold Sl.cell
  have h4 : (0 : Int) < 2 * (2 * s.h) := by omega
  generalize s.num y = n
  generalize hk : s.h = k at *
  have e : -((2 * -n + 2 * k) / (2 * (2 * k))) ≤ x ↔ -x ≤ (2 * -n + 2 * k) / (2 * (2 * k)) := by omega
  rw [e, Int.le_ediv_iff_mul_le h4]
  have e2 : -x * (2 * (2 * k)) = -4 * (x * k) := by grind
  have e3 : (2 * x + 1) * k = 2 * (x * k) + k := by grind
  rw [e2, e3]
  omega
theorem Sl.cell_bd {s : Sl} {y : Int} (hh : 0 < s.h) : 2 * s.num y - 2 * s.h ≤ 4 * (s.h * s.cell y) ∧ 4 * (s.h * s.cell y) ≤ 2 * s.num y + 2 * s.h := by
  unfold Sl.cell
  generalize s.num y = n
  generalize hk : s.h = k at *
  have h4 : (0 : Int) < 2 * (2 * k) := by omega
  have h1 := Int.emod_add_mul_ediv (2 * -n + 2 * k) (2 * (2 * k))
  have h2 := Int.emod_nonneg (2 * -n + 2 * k) (show 2 * (2 * k) ≠ 0 by omega)
  have h3 := Int.emod_lt_of_pos (2 * -n + 2 * k) h4
  generalize (2 * -n + 2 * k) / (2 * (2 * k)) = q at *
  have e : 2 * (2 * k) * q = 4 * (k * q) := by grind
  have e2 : k * -q = -(k * q) := by grind
  rw [e2]
  omega
/-- What an edge adds to the winding number of a cell. -/
def Sl.w (s : Sl) (x y : Int) : Int := if s.hit y && decide (s.cell y ≤ x) then s.d else 0
def edW (e : Ed) (x y : Int) : Int := (slp e.1 e.2).w x y
def edA (e : Ed) : Int := e.2.x * e.1.y - e.1.x * e.2.y
def edH (e : Ed) : Int := max (e.2.y - e.1.y) (-(e.2.y - e.1.y))
def sumI (l : List Int) : Int := l.foldr (· + ·) 0
theorem sumI_append (a b : List Int) : sumI (a ++ b) = sumI a + sumI b := by
  induction a with
  | nil => simp [sumI]
  | cons x t ih => show x + sumI (t ++ b) = x + sumI t + sumI b; rw [ih]; omega
theorem sumI_cons (x : Int) (t : List Int) : sumI (x :: t) = x + sumI t := rfl
theorem sumI_nil : sumI [] = 0 := rfl
theorem sumI_add {α : Type} (f g : α → Int) : ∀ l : List α, sumI (l.map fun x => f x + g x) = sumI (l.map f) + sumI (l.map g)
  | [] => rfl
  | x :: t => by simp only [List.map_cons, sumI_cons, sumI_add f g t]; omega
theorem sumI_mul {α : Type} (c : Int) (f : α → Int) : ∀ l : List α, sumI (l.map fun x => c * f x) = c * sumI (l.map f)
  | [] => by simp [sumI]
  | x :: t => by simp only [List.map_cons, sumI_cons, sumI_mul c f t, Int.mul_add]
theorem sumI_zero {α : Type} : ∀ l : List α, sumI (l.map fun _ => 0) = 0
  | [] => rfl
  | x :: t => by simp only [List.map_cons, sumI_cons, sumI_zero t]; rfl
theorem sumI_swap {α β : Type} (f : α → β → Int) (l : List α) : ∀ m : List β, sumI (l.map fun a => sumI (m.map fun b => f a b)) = sumI (m.map fun b => sumI (l.map fun a => f a b))
  | [] => by simp [sumI_nil, sumI_zero]
  | b :: t => by
    simp only [List.map_cons, sumI_cons]
    rw [sumI_add, sumI_swap f l t]
theorem sumI_le {α : Type} {f g : α → Int} : ∀ {l : List α}, (∀ x ∈ l, f x ≤ g x) → sumI (l.map f) ≤ sumI (l.map g)
  | [], _ => Int.le_refl _
  | x :: t, h => by
    simp only [List.map_cons, sumI_cons]
    have h1 := h x (by simp)
    have h2 := sumI_le (l := t) fun y hy => h y (List.mem_cons_of_mem _ hy)
    omega
theorem sumI_congr {α : Type} {f g : α → Int} {l : List α} (h : ∀ x ∈ l, f x = g x) : sumI (l.map f) = sumI (l.map g) := by
  rw [List.map_congr_left h]
theorem tele_F (g : P2 → Int) (f : P2) : ∀ (t : List P2) (p : P2), sumI ((edgF f p t).map fun e => g e.2 - g e.1) = g f - g p
  | [], p => by simp [edgF, sumI]
  | q :: t, p => by
    show g q - g p + sumI ((edgF f q t).map fun e => g e.2 - g e.1) = _
    rw [tele_F g f t q]; omega
/-- A difference adds up to nothing along closed lines. -/
theorem tele (g : P2 → Int) : ∀ ls : List Ln, sumI ((edgesL ls).map fun e => g e.2 - g e.1) = 0
  | [] => rfl
  | l :: t => by
    unfold edgesL
    rw [List.flatMap_cons, List.map_append, sumI_append]
    rw [show sumI ((t.flatMap fun l => edgs l.ps).map fun e => g e.2 - g e.1) = 0 from tele g t]
    cases hp : l.ps with
    | nil => simp [edgs, sumI]
    | cons p r =>
      show sumI ((edgF p p r).map fun e => g e.2 - g e.1) + 0 = 0
      rw [tele_F]; omega
def wind (ls : List Ln) (x y : Int) : Int := sumI ((edgesL ls).map fun e => edW e x y)
def area2 (ls : List Ln) : Int := sumI ((edgesL ls).map edA)
def highs (ls : List Ln) : Int := sumI ((edgesL ls).map edH)
/-- The turns of the edges that cross a row add up to nothing. -/
theorem turn_is (p q : P2) (y : Int) : (if (slp p q).hit y then (slp p q).d else 0) = (if p.y ≤ y then 1 else 0) - (if q.y ≤ y then 1 else 0) := by
  unfold slp Sl.hit
  by_cases h : p.y ≤ q.y
  · rw [if_pos h]
    by_cases h1 : p.y ≤ y <;> by_cases h2 : q.y ≤ y <;> simp [h1, h2] <;> omega
  · rw [if_neg h]
    by_cases h1 : p.y ≤ y <;> by_cases h2 : q.y ≤ y <;> simp [h1, h2] <;> omega
theorem turns_zero (ls : List Ln) (y : Int) : sumI ((edgesL ls).map fun e => if (slp e.1 e.2).hit y then (slp e.1 e.2).d else 0) = 0 := by
  refine Eq.trans (sumI_congr fun e _ => ?_) (tele (fun p => -(if p.y ≤ y then 1 else 0)) ls)
  rw [turn_is]; omega

/-! ### the area bound -/
/-- The whole numbers from lo on, n of them. -/
def ups (lo : Int) (n : Nat) : List Int := (List.range n).map fun (i : Nat) => lo + (i : Int)
theorem ups_succ (lo : Int) (n : Nat) : ups lo (n + 1) = ups lo n ++ [lo + (n : Int)] := by
  unfold ups; rw [List.range_succ, List.map_append]; rfl
theorem sum_ge (lo c : Int) (d : Int) : ∀ n : Nat, lo ≤ c → c ≤ lo + n → sumI ((ups lo n).map fun x => if c ≤ x then d else 0) = d * (lo + n - c)
  | 0, h1, h2 => by
    have : lo + ((0 : Nat) : Int) - c = 0 := by omega
    rw [this, Int.mul_zero]; rfl
  | n + 1, h1, h2 => by
    rw [ups_succ, List.map_append, sumI_append]
    simp only [List.map_cons, List.map_nil, sumI_cons, sumI_nil]
    by_cases h : c ≤ lo + (n : Int)
    · rw [sum_ge lo c d n h1 h, if_pos h]
      rw [show lo + ((n + 1 : Nat) : Int) - c = (lo + n - c) + 1 by omega, Int.mul_add]; omega
    · have : c = lo + (n : Int) + 1 := by omega
      rw [if_neg h]
      have hz : sumI ((ups lo n).map fun x => if c ≤ x then d else 0) = 0 := by
        refine Eq.trans (sumI_congr fun x hx => if_neg ?_) (sumI_zero (ups lo n))
        unfold ups at hx
        simp only [List.mem_map, List.mem_range] at hx
        obtain ⟨i, hi, rfl⟩ := hx
        omega
      rw [hz, show lo + ((n + 1 : Nat) : Int) - c = 0 by omega, Int.mul_zero]; rfl
theorem mem_ups {lo : Int} {n : Nat} {x : Int} : x ∈ ups lo n ↔ lo ≤ x ∧ x < lo + n := by
  unfold ups
  simp only [List.mem_map, List.mem_range]
  constructor
  · rintro ⟨i, hi, rfl⟩; omega
  · intro h; exact ⟨(x - lo).toNat, by omega, by omega⟩
theorem sum_win (F : Int → Int) (lo a : Int) : ∀ (n : Nat) (b : Int), lo ≤ a → a ≤ b → b ≤ lo + n → sumI ((ups lo n).map fun y => if a ≤ y ∧ y < b then F y else 0) = sumI ((ups a (b - a).toNat).map F)
  | 0, b, h1, h2, h3 => by
    rw [show (b - a).toNat = 0 by omega]; rfl
  | n + 1, b, h1, h2, h3 => by
    rw [ups_succ, List.map_append, sumI_append]
    simp only [List.map_cons, List.map_nil, sumI_cons, sumI_nil]
    by_cases hb : b ≤ lo + (n : Int)
    · rw [sum_win F lo a n b h1 h2 hb, if_neg (by omega)]; omega
    · by_cases ha : a ≤ lo + (n : Int)
      · have ih := sum_win F lo a n (lo + n) h1 ha (Int.le_refl _)
        have e : sumI ((ups lo n).map fun y => if a ≤ y ∧ y < b then F y else 0) = sumI ((ups lo n).map fun y => if a ≤ y ∧ y < lo + n then F y else 0) :=
          sumI_congr fun y hy => by
            have := mem_ups.1 hy
            by_cases k : a ≤ y
            · rw [if_pos ⟨k, by omega⟩, if_pos ⟨k, by omega⟩]
            · rw [if_neg (fun q => k q.1), if_neg (fun q => k q.1)]
        rw [e, ih, if_pos ⟨ha, by omega⟩, show (b - a).toNat = (lo + (n : Int) - a).toNat + 1 by omega, ups_succ, List.map_append, sumI_append]
        simp only [List.map_cons, List.map_nil, sumI_cons, sumI_nil]
        rw [show a + ((lo + (n : Int) - a).toNat : Int) = lo + n by omega]
      · have hz : sumI ((ups lo n).map fun y => if a ≤ y ∧ y < b then F y else 0) = 0 := by
          refine Eq.trans (sumI_congr fun y hy => if_neg ?_) (sumI_zero (ups lo n))
          have := mem_ups.1 hy
          omega
        rw [hz, if_neg (by omega), show (b - a).toNat = 0 by omega]; rfl
theorem cells_sum {s : Sl} (hh : 0 < s.h) : ∀ k : Nat,
    2 * (2 * (s.h * k) * s.t.x + (s.b.x - s.t.x) * (k * k)) - 2 * (s.h * k) ≤ 4 * (s.h * sumI ((ups s.t.y k).map s.cell)) ∧
    4 * (s.h * sumI ((ups s.t.y k).map s.cell)) ≤ 2 * (2 * (s.h * k) * s.t.x + (s.b.x - s.t.x) * (k * k)) + 2 * (s.h * k)
  | 0 => by simp [ups, sumI]
  | k + 1 => by
    obtain ⟨h1, h2⟩ := cells_sum hh k
    obtain ⟨b1, b2⟩ := Sl.cell_bd (s := s) (y := s.t.y + (k : Int)) hh
    rw [ups_succ, List.map_append, sumI_append]
    simp only [List.map_cons, List.map_nil, sumI_cons, sumI_nil]
    have e1 : s.num (s.t.y + (k : Int)) = 2 * s.h * s.t.x + (s.b.x - s.t.x) * (2 * k + 1) := by
      unfold Sl.num
      rw [show 2 * (s.t.y + (k : Int)) + 1 - 2 * s.t.y = 2 * k + 1 by omega]
    rw [e1] at b1 b2
    generalize s.cell (s.t.y + (k : Int)) = c at *
    generalize sumI ((ups s.t.y k).map s.cell) = S at *
    have e2 : 4 * (s.h * (S + (c + 0))) = 4 * (s.h * S) + 4 * (s.h * c) := by grind
    have e3 : 2 * (2 * (s.h * ((k + 1 : Nat) : Int)) * s.t.x + (s.b.x - s.t.x) * (((k + 1 : Nat) : Int) * ((k + 1 : Nat) : Int))) = 2 * (2 * (s.h * k) * s.t.x + (s.b.x - s.t.x) * (k * k)) + 2 * (2 * s.h * s.t.x + (s.b.x - s.t.x) * (2 * k + 1)) := by
      rw [show ((k + 1 : Nat) : Int) = (k : Int) + 1 by omega]; grind
    have e4 : 2 * (s.h * ((k + 1 : Nat) : Int)) = 2 * (s.h * k) + 2 * s.h := by
      rw [show ((k + 1 : Nat) : Int) = (k : Int) + 1 by omega]; grind
    rw [e2, e3, e4]
    omega
theorem mul_mono {h a b : Int} (hh : 0 < h) (k : 2 * (h * a) ≤ 2 * (h * b) + 0) : a ≤ b := by
  have : h * a ≤ h * b := by omega
  exact Int.le_of_mul_le_mul_left this hh
/-- Twice the sum of the cells over all rows is the edge's trapezium, up to its height. -/
theorem cells_bd {s : Sl} (hh : 0 < s.h) : s.h * (s.t.x + s.b.x) - s.h ≤ 2 * sumI ((ups s.t.y s.h.toNat).map s.cell) ∧ 2 * sumI ((ups s.t.y s.h.toNat).map s.cell) ≤ s.h * (s.t.x + s.b.x) + s.h := by
  obtain ⟨h1, h2⟩ := cells_sum hh s.h.toNat
  rw [show ((s.h.toNat : Nat) : Int) = s.h by omega] at h1 h2
  generalize sumI ((ups s.t.y s.h.toNat).map s.cell) = S at *
  have e1 : 2 * (2 * (s.h * s.h) * s.t.x + (s.b.x - s.t.x) * (s.h * s.h)) - 2 * (s.h * s.h) = 2 * (s.h * (s.h * (s.t.x + s.b.x) - s.h)) := by grind
  have e2 : 2 * (2 * (s.h * s.h) * s.t.x + (s.b.x - s.t.x) * (s.h * s.h)) + 2 * (s.h * s.h) = 2 * (s.h * (s.h * (s.t.x + s.b.x) + s.h)) := by grind
  have e3 : 4 * (s.h * S) = 2 * (s.h * (2 * S)) := by grind
  rw [e1, e3] at h1
  rw [e2, e3] at h2
  exact ⟨mul_mono hh (by omega), mul_mono hh (by omega)⟩
/-- A point within a window. -/
def Win (lo : Int) (n : Nat) (p : P2) : Prop := (lo ≤ p.x ∧ p.x ≤ lo + n) ∧ lo ≤ p.y ∧ p.y ≤ lo + n
theorem num_in {s : Sl} {y m M : Int} (hy : s.hit y = true) (h1 : m ≤ s.t.x ∧ s.t.x ≤ M) (h2 : m ≤ s.b.x ∧ s.b.x ≤ M) : 2 * (s.h * m) ≤ s.num y ∧ s.num y ≤ 2 * (s.h * M) := by
  have hh := Sl.hit_h hy
  unfold Sl.hit at hy
  simp only [decide_eq_true_eq] at hy
  unfold Sl.num
  obtain ⟨u, hu⟩ : ∃ u, u = 2 * y + 1 - 2 * s.t.y := ⟨_, rfl⟩
  rw [← hu]
  have hu1 : 0 ≤ u := by omega
  have hu2 : 0 ≤ 2 * s.h - u := by unfold Sl.h; omega
  have e : 2 * s.h * s.t.x + (s.b.x - s.t.x) * u = (2 * s.h - u) * s.t.x + u * s.b.x := by grind
  have a1 := Int.mul_le_mul_of_nonneg_left h1.1 hu2
  have a2 := Int.mul_le_mul_of_nonneg_left h1.2 hu2
  have b1 := Int.mul_le_mul_of_nonneg_left h2.1 hu1
  have b2 := Int.mul_le_mul_of_nonneg_left h2.2 hu1
  have c1 : (2 * s.h - u) * m + u * m = 2 * (s.h * m) := by grind
  have c2 : (2 * s.h - u) * M + u * M = 2 * (s.h * M) := by grind
  rw [e]
  omega
theorem cell_in {s : Sl} {y m M : Int} (hy : s.hit y = true) (h1 : m ≤ s.t.x ∧ s.t.x ≤ M) (h2 : m ≤ s.b.x ∧ s.b.x ≤ M) : m ≤ s.cell y ∧ s.cell y ≤ M := by
  have hh := Sl.hit_h hy
  obtain ⟨n1, n2⟩ := num_in hy h1 h2
  obtain ⟨b1, b2⟩ := Sl.cell_bd (s := s) (y := y) hh
  constructor
  · rcases Int.lt_or_le (s.cell y) m with k | k
    · have : s.h * (s.cell y + 1) ≤ s.h * m := Int.mul_le_mul_of_nonneg_left (by omega) (by omega)
      rw [Int.mul_add] at this
      omega
    · exact k
  · rcases Int.lt_or_le M (s.cell y) with k | k
    · have : s.h * (M + 1) ≤ s.h * s.cell y := Int.mul_le_mul_of_nonneg_left (by omega) (by omega)
      rw [Int.mul_add] at this
      omega
    · exact k
theorem row_sum {s : Sl} {y lo : Int} {n : Nat} (h1 : lo ≤ s.t.x ∧ s.t.x ≤ lo + n) (h2 : lo ≤ s.b.x ∧ s.b.x ≤ lo + n) :
    sumI ((ups lo n).map fun x => s.w x y) = if s.t.y ≤ y ∧ y < s.b.y then s.d * (lo + n - s.cell y) else 0 := by
  by_cases hy : s.hit y = true
  · have hy' := hy
    unfold Sl.hit at hy'
    simp only [decide_eq_true_eq] at hy'
    rw [if_pos hy']
    obtain ⟨c1, c2⟩ := cell_in hy h1 h2
    rw [← sum_ge lo (s.cell y) s.d n c1 c2]
    exact sumI_congr fun x _ => by unfold Sl.w; rw [hy]; simp
  · have hy' := hy
    unfold Sl.hit at hy'
    simp only [decide_eq_true_eq] at hy'
    rw [if_neg hy', ← sumI_zero (ups lo n)]
    exact sumI_congr fun x _ => by unfold Sl.w; simp [hy]
theorem sumI_sub {α : Type} (f g : α → Int) : ∀ l : List α, sumI (l.map fun x => f x - g x) = sumI (l.map f) - sumI (l.map g)
  | [] => rfl
  | x :: t => by simp only [List.map_cons, sumI_cons, sumI_sub f g t]; omega
theorem sumI_const (c : Int) (lo : Int) : ∀ n : Nat, sumI ((ups lo n).map fun _ => c) = c * n
  | 0 => by simp [ups, sumI]
  | n + 1 => by
    rw [ups_succ, List.map_append, sumI_append, sumI_const c lo n]
    simp only [List.map_cons, List.map_nil, sumI_cons, sumI_nil]
    rw [show ((n + 1 : Nat) : Int) = (n : Int) + 1 by omega, Int.mul_add]; omega
/-- All cells of a window: what a slope adds. -/
theorem slope_sum {s : Sl} {lo : Int} {n : Nat} (ht : Win lo n s.t) (hb : Win lo n s.b) (ho : s.t.y ≤ s.b.y) :
    ∃ S, sumI ((ups lo n).map fun y => sumI ((ups lo n).map fun x => s.w x y)) = s.d * ((lo + n) * s.h - S) ∧ s.h * (s.t.x + s.b.x) - s.h ≤ 2 * S ∧ 2 * S ≤ s.h * (s.t.x + s.b.x) + s.h := by
  have e : sumI ((ups lo n).map fun y => sumI ((ups lo n).map fun x => s.w x y)) = sumI ((ups lo n).map fun y => if s.t.y ≤ y ∧ y < s.b.y then s.d * (lo + n - s.cell y) else 0) :=
    sumI_congr fun y _ => row_sum ht.1 hb.1
  rw [e, sum_win (fun y => s.d * (lo + n - s.cell y)) lo s.t.y n s.b.y ht.2.1 ho hb.2.2, sumI_mul]
  refine ⟨sumI ((ups s.t.y (s.b.y - s.t.y).toNat).map s.cell), ?_, ?_⟩
  · congr 1
    rw [sumI_sub (fun _ => lo + (n : Int)) s.cell, sumI_const]
    congr 2
    unfold Sl.h
    omega
  · rcases Int.lt_or_le 0 s.h with k | k
    · exact cells_bd k
    · have h0 : s.h = 0 := by unfold Sl.h at *; omega
      rw [h0, show (s.b.y - s.t.y).toNat = 0 by unfold Sl.h at h0; omega]
      simp [ups, sumI]
theorem edge_sum {e : Ed} {lo : Int} {n : Nat} (hp : Win lo n e.1) (hq : Win lo n e.2) :
    2 * sumI ((ups lo n).map fun y => sumI ((ups lo n).map fun x => edW e x y)) ≤ 2 * (lo + n) * (e.2.y - e.1.y) - (e.2.y * e.2.x - e.1.y * e.1.x) + edA e + edH e ∧
    2 * (lo + n) * (e.2.y - e.1.y) - (e.2.y * e.2.x - e.1.y * e.1.x) + edA e - edH e ≤ 2 * sumI ((ups lo n).map fun y => sumI ((ups lo n).map fun x => edW e x y)) := by
  obtain ⟨p, q⟩ := e
  unfold edW edA edH slp
  dsimp only at *
  by_cases h : p.y ≤ q.y
  · rw [if_pos h]
    obtain ⟨S, e1, e2, e3⟩ := slope_sum (s := ⟨p, q, 1⟩) hp hq h
    rw [e1]
    dsimp only [Sl.h] at *
    rw [show max (q.y - p.y) (-(q.y - p.y)) = q.y - p.y by omega]
    have k1 : 2 * (1 * ((lo + n) * (q.y - p.y) - S)) = 2 * (lo + n) * (q.y - p.y) - 2 * S := by grind
    have k2 : (q.y - p.y) * (p.x + q.x) = q.y * q.x - p.y * p.x - (q.x * p.y - p.x * q.y) := by grind
    rw [k1]
    rw [k2] at e2 e3
    omega
  · rw [if_neg h]
    obtain ⟨S, e1, e2, e3⟩ := slope_sum (s := ⟨q, p, -1⟩) hq hp (by show q.y ≤ p.y; omega)
    rw [e1]
    dsimp only [Sl.h] at *
    rw [show max (q.y - p.y) (-(q.y - p.y)) = p.y - q.y by omega]
    have k1 : 2 * (-1 * ((lo + n) * (p.y - q.y) - S)) = 2 * (lo + n) * (q.y - p.y) + 2 * S := by grind
    have k2 : (p.y - q.y) * (q.x + p.x) = -(q.y * q.x - p.y * p.x - (q.x * p.y - p.x * q.y)) := by grind
    rw [k1]
    rw [k2] at e2 e3
    omega
theorem edgF_mem {f : P2} {Q : P2 → Prop} (hf : Q f) : ∀ (t : List P2) (p : P2), Q p → (∀ q ∈ t, Q q) → ∀ e ∈ edgF f p t, Q e.1 ∧ Q e.2
  | [], p, hp, _, e, he => by
    obtain rfl : e = (p, f) := by simpa [edgF] using he
    exact ⟨hp, hf⟩
  | q :: t, p, hp, ht, e, he => by
    rcases List.mem_cons.1 he with rfl | he
    · exact ⟨hp, ht q (by simp)⟩
    · exact edgF_mem hf t q (ht q (by simp)) (fun x hx => ht x (List.mem_cons_of_mem _ hx)) e he
theorem edges_mem {Q : P2 → Prop} {ls : List Ln} (h : ∀ l ∈ ls, ∀ p ∈ l.ps, Q p) : ∀ e ∈ edgesL ls, Q e.1 ∧ Q e.2 := by
  intro e he
  obtain ⟨l, hl, he⟩ := List.mem_flatMap.1 he
  cases hp : l.ps with
  | nil => rw [hp] at he; cases he
  | cons p t =>
    rw [hp] at he
    have hq := h l hl
    rw [hp] at hq
    exact edgF_mem (hq p (by simp)) t p (hq p (by simp)) (fun x hx => hq x (List.mem_cons_of_mem _ hx)) e he
/-- The sum of the winding numbers of a window that holds all points. -/
def windSum (ls : List Ln) (lo : Int) (n : Nat) : Int := sumI ((ups lo n).map fun y => sumI ((ups lo n).map fun x => wind ls x y))
theorem area_bound {ls : List Ln} {lo : Int} {n : Nat} (h : ∀ l ∈ ls, ∀ p ∈ l.ps, Win lo n p) : 2 * windSum ls lo n - area2 ls ≤ highs ls ∧ -(2 * windSum ls lo n - area2 ls) ≤ highs ls := by
  have hm := edges_mem h
  have e0 : windSum ls lo n = sumI ((edgesL ls).map fun e => sumI ((ups lo n).map fun y => sumI ((ups lo n).map fun x => edW e x y))) := by
    unfold windSum wind
    rw [sumI_congr (g := fun y => sumI ((edgesL ls).map fun e => sumI ((ups lo n).map fun x => edW e x y))) fun y _ => sumI_swap (fun x e => edW e x y) (ups lo n) (edgesL ls)]
    exact sumI_swap (fun y e => sumI ((ups lo n).map fun x => edW e x y)) (ups lo n) (edgesL ls)
  have t1 := tele (fun p => 2 * (lo + n) * p.y - p.y * p.x) ls
  have key : ∀ e ∈ edgesL ls, _ := fun e he => edge_sum (lo := lo) (n := n) (hm e he).1 (hm e he).2
  have u1 := sumI_le (f := fun e => 2 * sumI ((ups lo n).map fun y => sumI ((ups lo n).map fun x => edW e x y))) (g := fun e => ((2 * (lo + n) * e.2.y - e.2.y * e.2.x) - (2 * (lo + n) * e.1.y - e.1.y * e.1.x)) + (edA e + edH e)) (l := edgesL ls) fun e he => by
    have := (key e he).1
    rw [Int.mul_sub] at this
    omega
  have u2 := sumI_le (g := fun e => 2 * sumI ((ups lo n).map fun y => sumI ((ups lo n).map fun x => edW e x y))) (f := fun e => ((2 * (lo + n) * e.2.y - e.2.y * e.2.x) - (2 * (lo + n) * e.1.y - e.1.y * e.1.x)) + (edA e - edH e)) (l := edgesL ls) fun e he => by
    have := (key e he).2
    rw [Int.mul_sub] at this
    omega
  rw [sumI_mul, sumI_add, t1, sumI_add] at u1
  rw [sumI_mul, sumI_add, t1, sumI_sub] at u2
  rw [← e0] at u1 u2
  unfold area2 highs
  omega
end Go.Proofs.Ytjflgblplmgjlaa
