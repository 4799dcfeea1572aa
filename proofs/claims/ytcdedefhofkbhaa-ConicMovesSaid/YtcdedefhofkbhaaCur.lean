/- Points of a curve, its division: numbers alone. -/
import Derived.Test.YtcdedefhofkbhaaLeaf
namespace Go.Proofs.Ytcdedefhofkbhaa
set_option linter.unusedVariables false

/-- Round half up. -/
def rnd (a b : Int) : Int := (2 * a + b) / (2 * b)
theorem rnd_add (a b m : Int) (hb : 0 < b) : rnd (a + m * b) b = rnd a b + m := by
  unfold rnd
  rw [show 2 * (a + m * b) + b = (2 * a + b) + m * (2 * b) by rw [Int.mul_add, Int.mul_left_comm]; omega]
  exact Int.add_mul_ediv_right _ _ (by omega)
theorem rnd_ge {a b m : Int} (hb : 0 < b) (h : m * b ≤ a) : m ≤ rnd a b := by
  unfold rnd
  rw [Int.le_ediv_iff_mul_le (by omega), Int.mul_left_comm]; omega
theorem rnd_le {a b m : Int} (hb : 0 < b) (h : a ≤ m * b) : rnd a b ≤ m := by
  unfold rnd
  have : (2 * a + b) / (2 * b) < m + 1 := by
    rw [Int.ediv_lt_iff_lt_mul (by omega), Int.mul_left_comm, Int.add_mul]; omega
  omega
theorem rnd_self {b m : Int} (hb : 0 < b) : rnd (m * b) b = m :=
  Int.le_antisymm (rnd_le hb (Int.le_refl _)) (rnd_ge hb (Int.le_refl _))
theorem rnd_bd {a b : Int} (hb : 0 < b) : 2 * (rnd a b * b) ≤ 2 * a + b ∧ 2 * a + b < 2 * (rnd a b * b) + 2 * b := by
  have h1 := Int.mul_ediv_self_le (x := 2 * a + b) (k := 2 * b) (by omega)
  have h2 := Int.lt_mul_ediv_self_add (x := 2 * a + b) (k := 2 * b) (by omega)
  unfold rnd
  rw [Int.mul_assoc, Int.mul_comm b] at h1 h2
  exact ⟨h1, h2⟩

/-- The three weights of the point at k/n. -/
def w0 (k n : Int) : Int := 256 * (n - k) * (n - k)
def w1 (w k n : Int) : Int := 2 * k * (n - k) * w
def w2 (k : Int) : Int := 256 * k * k
def ww (w k n : Int) : Int := w0 k n + w1 w k n + w2 k
/-- One coordinate of the point at k/n. -/
def crd (a b c w k n : Int) : Int := rnd (w0 k n * a + w1 w k n * b + w2 k * c) (ww w k n)

theorem mul_bd {a b A B : Int} (ha : 0 ≤ a ∧ a ≤ A) (hb : 0 ≤ b ∧ b ≤ B) : 0 ≤ a * b ∧ a * b ≤ A * B :=
  ⟨Int.mul_nonneg ha.1 hb.1, Int.mul_le_mul ha.2 hb.2 hb.1 (by omega)⟩
theorem sq_pos {a : Int} (h : a ≠ 0) : 1 ≤ a * a := by
  rcases Int.lt_or_gt_of_ne h with h | h
  · have := Int.mul_pos (a := -a) (b := -a) (by omega) (by omega)
    rw [Int.neg_mul_neg] at this; omega
  · have := Int.mul_pos (a := a) (b := a) (by omega) (by omega); omega
structure InK (w k n : Int) : Prop where
  k0 : 0 ≤ k
  kn : k ≤ n
  n1 : 1 ≤ n
  n2 : n ≤ 1024
  wl : 16 ≤ w
  wu : w ≤ 4096
theorem w0_bd {w k n : Int} (h : InK w k n) : 0 ≤ w0 k n ∧ w0 k n ≤ 268435456 := by
  have := h.k0; have := h.kn; have := h.n2
  have h1 := mul_bd (a := 256 * (n - k)) (b := n - k) (A := 262144) (B := 1024) (by omega) (by omega)
  exact h1
theorem w2_bd {w k n : Int} (h : InK w k n) : 0 ≤ w2 k ∧ w2 k ≤ 268435456 := by
  have := h.k0; have := h.kn; have := h.n2
  exact mul_bd (a := 256 * k) (b := k) (A := 262144) (B := 1024) (by omega) (by omega)
theorem w1_bd' {w k n : Int} (h : InK w k n) : 0 ≤ 2 * k * (n - k) ∧ 2 * k * (n - k) ≤ 2097152 := by
  have := h.k0; have := h.kn; have := h.n2
  exact mul_bd (a := 2 * k) (b := n - k) (A := 2048) (B := 1024) (by omega) (by omega)
theorem w1_bd {w k n : Int} (h : InK w k n) : 0 ≤ w1 w k n ∧ w1 w k n ≤ 8589934592 := by
  have := h.wl; have := h.wu
  exact mul_bd (B := 4096) (w1_bd' h) (by omega)
theorem ww_pos {w k n : Int} (h : InK w k n) : 0 < ww w k n := by
  have a := w0_bd h; have b := w1_bd h; have c := w2_bd h
  unfold ww
  by_cases hk : k = 0
  · have : 1 ≤ (n - k) * (n - k) := sq_pos (by have := h.n1; omega)
    have e : w0 k n = 256 * ((n - k) * (n - k)) := by unfold w0; rw [Int.mul_assoc]
    omega
  · have : 1 ≤ k * k := sq_pos hk
    have e : w2 k = 256 * (k * k) := by unfold w2; rw [Int.mul_assoc]
    omega
theorem crd_shift {a b c w k n : Int} (h : InK w k n) (d : Int) : crd (a + d) (b + d) (c + d) w k n = crd a b c w k n + d := by
  unfold crd
  rw [← rnd_add _ _ d (ww_pos h)]
  congr 1
  unfold ww
  simp only [Int.mul_add, Int.add_mul, Int.mul_comm d]; omega
theorem crd_back (a b c w k n : Int) : crd c b a w (n - k) n = crd a b c w k n := by
  have e0 : w0 (n - k) n = w2 k := by unfold w0 w2; rw [show n - (n - k) = k by omega]
  have e2 : w2 (n - k) = w0 k n := rfl
  have e1 : w1 w (n - k) n = w1 w k n := by unfold w1; rw [show n - (n - k) = k by omega, Int.mul_assoc 2, Int.mul_comm (n - k), ← Int.mul_assoc]
  unfold crd ww
  rw [e0, e1, e2]
  congr 1 <;> omega
theorem crd_ge {a b c w k n m : Int} (h : InK w k n) (ha : m ≤ a) (hb : m ≤ b) (hc : m ≤ c) : m ≤ crd a b c w k n := by
  refine rnd_ge (ww_pos h) ?_
  unfold ww
  have e0 := w0_bd h; have e1 := w1_bd h; have e2 := w2_bd h
  have f0 := Int.mul_le_mul_of_nonneg_left ha e0.1
  have f1 := Int.mul_le_mul_of_nonneg_left hb e1.1
  have f2 := Int.mul_le_mul_of_nonneg_left hc e2.1
  rw [Int.mul_add, Int.mul_add, Int.mul_comm m, Int.mul_comm m, Int.mul_comm m]; omega
theorem crd_le {a b c w k n m : Int} (h : InK w k n) (ha : a ≤ m) (hb : b ≤ m) (hc : c ≤ m) : crd a b c w k n ≤ m := by
  refine rnd_le (ww_pos h) ?_
  unfold ww
  have e0 := w0_bd h; have e1 := w1_bd h; have e2 := w2_bd h
  have f0 := Int.mul_le_mul_of_nonneg_left ha e0.1
  have f1 := Int.mul_le_mul_of_nonneg_left hb e1.1
  have f2 := Int.mul_le_mul_of_nonneg_left hc e2.1
  rw [Int.mul_add, Int.mul_add, Int.mul_comm m, Int.mul_comm m, Int.mul_comm m]; omega
theorem crd_end (a b c w n : Int) (h : InK w n n) : crd a b c w n n = c := by
  unfold crd
  have e0 : w0 n n = 0 := by unfold w0; simp
  have e1 : w1 w n n = 0 := by unfold w1; simp
  have hp := ww_pos h
  unfold ww at hp ⊢
  rw [e0, e1] at hp ⊢
  simp only [Int.zero_mul, Int.zero_add] at hp ⊢
  rw [Int.mul_comm]; exact rnd_self hp
theorem crd_start (a b c w n : Int) (h : InK w 0 n) : crd a b c w 0 n = a := by
  have := crd_back a b c w 0 n
  rw [← this, Int.sub_zero]
  exact crd_end _ _ _ _ _ ⟨by have := h.n1; omega, by omega, h.n1, h.n2, h.wl, h.wu⟩

structure P2 where
  x : Int
  y : Int
deriving DecidableEq, Inhabited
/-- A curve. -/
structure Cu where
  p : P2
  q : P2
  r : P2
  w : Int
def Cu.at (c : Cu) (k n : Int) : P2 := ⟨crd c.p.x c.q.x c.r.x c.w k n, crd c.p.y c.q.y c.r.y c.w k n⟩
def Cu.rev (c : Cu) : Cu := ⟨c.r, c.q, c.p, c.w⟩
def P2.sh (p : P2) (dx dy : Int) : P2 := ⟨p.x + dx, p.y + dy⟩
def Cu.sh (c : Cu) (dx dy : Int) : Cu := ⟨c.p.sh dx dy, c.q.sh dx dy, c.r.sh dx dy, c.w⟩
theorem at_rev (c : Cu) (k n : Int) : c.rev.at (n - k) n = c.at k n := by
  unfold Cu.at Cu.rev
  simp only [crd_back]
theorem at_sh {c : Cu} {k n : Int} (h : InK c.w k n) (dx dy : Int) : (c.sh dx dy).at k n = (c.at k n).sh dx dy := by
  unfold Cu.at Cu.sh P2.sh
  simp only [crd_shift h]
def cross (m a b : P2) : Int := (b.x - a.x) * (m.y - a.y) - (b.y - a.y) * (m.x - a.x)
def btw (m a b : Int) : Bool := decide (min a b - 1 ≤ m ∧ m ≤ max a b + 1)
def flatB (m a b : P2) : Bool := decide (max (cross m a b) (-cross m a b) ≤ max (max (max (max (b.x - a.x) (-(b.x - a.x))) (b.y - a.y)) (-(b.y - a.y))) 1)
def near (m a b : P2) : Bool := btw m.x a.x b.x && (btw m.y a.y b.y && flatB m a b)
theorem cross_swap (m a b : P2) : cross m b a = - cross m a b := by
  unfold cross
  simp only [Int.mul_sub, Int.sub_mul]
  rw [Int.mul_comm a.y b.x, Int.mul_comm b.y b.x, Int.mul_comm a.y a.x, Int.mul_comm b.y a.x]; omega
theorem near_swap (m a b : P2) : near m b a = near m a b := by
  unfold near btw flatB
  rw [cross_swap]
  have e1 : ∀ u v : Int, min u v = min v u := Int.min_comm
  congr 1
  · rw [Int.min_comm, Int.max_comm]
  · congr 1
    · rw [Int.min_comm, Int.max_comm]
    · generalize cross m a b = z
      apply decide_eq_decide.2
      omega
theorem near_sh (m a b : P2) (dx dy : Int) : near (m.sh dx dy) (a.sh dx dy) (b.sh dx dy) = near m a b := by
  have hc : cross (m.sh dx dy) (a.sh dx dy) (b.sh dx dy) = cross m a b := by
    unfold cross P2.sh
    simp only [show ∀ u v d : Int, u + d - (v + d) = u - v from fun _ _ _ => by omega]
  unfold near flatB
  rw [hc]
  unfold btw P2.sh
  simp only [show ∀ u v d : Int, u + d - (v + d) = u - v from fun _ _ _ => by omega]
  congr 1
  · apply decide_eq_decide.2; omega
  · congr 1
    apply decide_eq_decide.2; omega
/-- The curve is flat at n. -/
def Cu.flat (c : Cu) (n : Nat) : Bool := (List.range n).all fun k => near (c.at (2 * k + 1 : Nat) (2 * n : Nat)) (c.at k n) (c.at (k + 1 : Nat) n)
theorem flat_rev (c : Cu) (n : Nat) : c.rev.flat n = c.flat n := by
  unfold Cu.flat
  rw [Bool.eq_iff_iff, List.all_eq_true, List.all_eq_true]
  have key : ∀ k < n, near (c.rev.at (2 * (n - 1 - k) + 1 : Nat) (2 * n : Nat)) (c.rev.at (n - 1 - k : Nat) n) (c.rev.at (n - 1 - k + 1 : Nat) n) = near (c.at (2 * k + 1 : Nat) (2 * n : Nat)) (c.at k n) (c.at (k + 1 : Nat) n) := by
    intro k hk
    rw [show ((2 * (n - 1 - k) + 1 : Nat) : Int) = ((2 * n : Nat) : Int) - ((2 * k + 1 : Nat) : Int) by omega, at_rev,
      show ((n - 1 - k : Nat) : Int) = (n : Int) - ((k + 1 : Nat) : Int) by omega, at_rev, show ((n - 1 - k + 1 : Nat) : Int) = (n : Int) - (k : Int) by omega, at_rev, near_swap]
  constructor
  · intro h k hk
    have hk' := List.mem_range.1 hk
    rw [← key k hk']
    exact h (n - 1 - k) (List.mem_range.2 (by omega))
  · intro h k hk
    have hk' := List.mem_range.1 hk
    have := key (n - 1 - k) (by omega)
    rw [show n - 1 - (n - 1 - k) = k by omega] at this
    rw [this]
    exact h (n - 1 - k) (List.mem_range.2 (by omega))
theorem flat_sh {c : Cu} {n : Nat} (h1 : n ≤ 512) (hw : 16 ≤ c.w ∧ c.w ≤ 4096) (dx dy : Int) : (c.sh dx dy).flat n = c.flat n := by
  unfold Cu.flat
  rw [Bool.eq_iff_iff, List.all_eq_true, List.all_eq_true]
  have key : ∀ k < n, near ((c.sh dx dy).at (2 * k + 1 : Nat) (2 * n : Nat)) ((c.sh dx dy).at k n) ((c.sh dx dy).at (k + 1 : Nat) n) = near (c.at (2 * k + 1 : Nat) (2 * n : Nat)) (c.at k n) (c.at (k + 1 : Nat) n) := by
    intro k hk
    rw [at_sh ⟨by omega, by omega, by omega, by omega, hw.1, hw.2⟩, at_sh ⟨by omega, by omega, by omega, by omega, hw.1, hw.2⟩, at_sh ⟨by omega, by omega, by omega, by omega, hw.1, hw.2⟩, near_sh]
  constructor <;> intro h k hk
  · rw [← key k (List.mem_range.1 hk)]; exact h k hk
  · rw [key k (List.mem_range.1 hk)]; exact h k hk
/-- The least power of two from n on at which p holds, at most f more. -/
def dvF (p : Nat → Bool) : Nat → Nat → Nat
  | 0, n => n
  | f + 1, n => if p n then n else dvF p f (2 * n)
def Cu.dv (c : Cu) : Nat := dvF c.flat 9 1
theorem dvF_congr {p q : Nat → Bool} : ∀ f n, n * 2 ^ f ≤ 512 → (∀ k, k ≤ 512 → p k = q k) → dvF p f n = dvF q f n
  | 0, _, _, _ => rfl
  | f + 1, n, h, hpq => by
    have h2 : 2 * n * 2 ^ f ≤ 512 := by rw [Nat.pow_succ] at h; rw [Nat.mul_assoc, Nat.mul_left_comm, Nat.mul_comm 2]; exact h
    have hn : n ≤ 512 := by
      have : 1 ≤ 2 ^ (f + 1) := Nat.one_le_two_pow
      have := Nat.mul_le_mul_left n this; omega
    unfold dvF
    rw [hpq n hn, dvF_congr f (2 * n) h2 hpq]
theorem dvF_bd (p : Nat → Bool) : ∀ f n, 1 ≤ n → n * 2 ^ f ≤ 512 → 1 ≤ dvF p f n ∧ dvF p f n ≤ 512
  | 0, n, h1, h => by simpa [dvF, h1] using h
  | f + 1, n, h1, h => by
    have h2 : 2 * n * 2 ^ f ≤ 512 := by rw [Nat.pow_succ] at h; rw [Nat.mul_assoc, Nat.mul_left_comm, Nat.mul_comm 2]; exact h
    have hn : n ≤ 512 := by
      have : 1 ≤ 2 ^ (f + 1) := Nat.one_le_two_pow
      have := Nat.mul_le_mul_left n this; omega
    unfold dvF
    split
    · exact ⟨h1, hn⟩
    · exact dvF_bd p f (2 * n) (by omega) h2
theorem dv_bd (c : Cu) : 1 ≤ c.dv ∧ c.dv ≤ 512 := dvF_bd _ 9 1 (by omega) (by decide)
theorem dv_rev (c : Cu) : c.rev.dv = c.dv := dvF_congr 9 1 (by decide) fun k _ => flat_rev c k
theorem dv_sh {c : Cu} (hw : 16 ≤ c.w ∧ c.w ≤ 4096) (dx dy : Int) : (c.sh dx dy).dv = c.dv := dvF_congr 9 1 (by decide) fun k hk => flat_sh hk hw dx dy
/-- The points that replace a curve. -/
def Cu.pts (c : Cu) : List P2 := (List.range c.dv).map fun k => c.at (k + 1 : Nat) c.dv
theorem pts_length (c : Cu) : c.pts.length = c.dv := by simp [Cu.pts]
theorem inK {c : Cu} (hw : 16 ≤ c.w ∧ c.w ≤ 4096) {k n : Nat} (h1 : 1 ≤ n) (h2 : n ≤ 1024) (hk : k ≤ n) : InK c.w k n := ⟨by omega, by omega, by omega, by omega, hw.1, hw.2⟩
theorem at_end {c : Cu} (hw : 16 ≤ c.w ∧ c.w ≤ 4096) {n : Nat} (h1 : 1 ≤ n) (h2 : n ≤ 1024) : c.at n n = c.r := by
  unfold Cu.at
  rw [crd_end _ _ _ _ _ (inK hw h1 h2 (Nat.le_refl n)), crd_end _ _ _ _ _ (inK hw h1 h2 (Nat.le_refl n))]
theorem at_start {c : Cu} (hw : 16 ≤ c.w ∧ c.w ≤ 4096) {n : Nat} (h1 : 1 ≤ n) (h2 : n ≤ 1024) : c.at 0 n = c.p := by
  unfold Cu.at
  have h := inK hw h1 h2 (Nat.zero_le n)
  rw [crd_start _ _ _ _ _ h, crd_start _ _ _ _ _ h]
theorem pts_sh {c : Cu} (hw : 16 ≤ c.w ∧ c.w ≤ 4096) (dx dy : Int) : (c.sh dx dy).pts = c.pts.map (·.sh dx dy) := by
  have hd := dv_bd c
  unfold Cu.pts
  rw [dv_sh hw, List.map_map]
  refine List.map_congr_left fun k hk => ?_
  have := List.mem_range.1 hk
  exact at_sh (inK hw hd.1 (by omega) (by omega)) dx dy
/-- From the beginning over the points: backwards these are the points of the curve that is traversed backwards. -/
theorem pts_rev {c : Cu} (hw : 16 ≤ c.w ∧ c.w ≤ 4096) : (c.p :: c.pts).reverse = c.r :: c.rev.pts := by
  have hd := dv_bd c
  have e : ∀ c' : Cu, (16 ≤ c'.w ∧ c'.w ≤ 4096) → c'.p :: c'.pts = (List.range (c'.dv + 1)).map fun k => c'.at (k : Nat) c'.dv := by
    intro c' hw'
    have hd' := dv_bd c'
    rw [List.range_succ_eq_map, List.map_cons, List.map_map]
    rw [show c'.at ((0 : Nat) : Int) c'.dv = c'.p from at_start hw' hd'.1 (by omega)]
    rfl
  have e2 := e c.rev hw
  rw [show c.rev.p = c.r from rfl, dv_rev] at e2
  rw [e c hw, e2]
  apply List.ext_getElem
  · simp
  · intro i h1 h2
    simp only [List.length_reverse, List.length_map, List.length_range] at h1
    rw [List.getElem_reverse]
    simp only [List.getElem_map, List.getElem_range, List.length_map, List.length_range]
    rw [← at_rev]
    congr 1
    omega
theorem at_hull {c : Cu} {k n : Nat} (hw : 16 ≤ c.w ∧ c.w ≤ 4096) (h1 : 1 ≤ n) (h2 : n ≤ 1024) (hk : k ≤ n) :
    (min (min c.p.x c.q.x) c.r.x ≤ (c.at k n).x ∧ (c.at k n).x ≤ max (max c.p.x c.q.x) c.r.x) ∧ (min (min c.p.y c.q.y) c.r.y ≤ (c.at k n).y ∧ (c.at k n).y ≤ max (max c.p.y c.q.y) c.r.y) :=
  have h := inK (c := c) hw h1 h2 hk
  ⟨⟨crd_ge h (by omega) (by omega) (by omega), crd_le h (by omega) (by omega) (by omega)⟩, ⟨crd_ge h (by omega) (by omega) (by omega), crd_le h (by omega) (by omega) (by omega)⟩⟩
theorem pts_last {c : Cu} (hw : 16 ≤ c.w ∧ c.w ≤ 4096) : c.pts.getLast? = some c.r := by
  have hd := dv_bd c
  obtain ⟨m, hm⟩ : ∃ m, c.dv = m + 1 := ⟨c.dv - 1, by omega⟩
  unfold Cu.pts
  rw [hm, List.range_succ, List.map_append]
  simp only [List.map_cons, List.map_nil, List.getLast?_concat]
  rw [← hm, at_end hw hd.1 (by omega)]
end Go.Proofs.Ytcdedefhofkbhaa
