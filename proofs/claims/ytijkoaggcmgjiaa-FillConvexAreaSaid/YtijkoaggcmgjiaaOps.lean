/- Cells of regions; the edges of a region in their order; a walk over the edges of two regions. Without a program. -/
import Derived.Test.YtijkoaggcmgjiaaOwn
import Derived.Test.YtijkoaggcmgjiaaPure
namespace Go.Proofs.Ytijkoaggcmgjiaa
open Go
set_option linter.unusedVariables false

/-! ### what a valid region is -/
/-- A run that a valid region may have. -/
def RnOk (s : Rn) : Prop := RnIn s ∧ s.a < s.b
theorem chkRn_zero {p : Option Rn} {s : Rn} : chkRn p s = 0 ↔ RnOk s ∧ okB p s := by
  unfold chkRn RnOk
  by_cases h1 : RnIn s
  · rw [if_neg (fun k => k h1)]
    by_cases h2 : s.b ≤ s.a
    · rw [if_pos h2]; exact ⟨fun h => (by cases h), fun h => by have := h.1.2; omega⟩
    · rw [if_neg h2]
      by_cases h3 : okB p s
      · rw [if_neg (fun k => k h3)]; exact ⟨fun _ => ⟨⟨h1, by omega⟩, h3⟩, fun _ => rfl⟩
      · rw [if_pos h3]; exact ⟨fun h => (by cases h), fun h => absurd h.2 h3⟩
  · rw [if_pos h1]; exact ⟨fun h => (by cases h), fun h => absurd h.1.1 h1⟩
theorem chkAll_cons {p : Option Rn} {s : Rn} {r : List Rn} : chkAll p (s :: r) = 0 ↔ RnOk s ∧ okB p s ∧ chkAll (some s) r = 0 := by
  rw [chkAll]
  by_cases h : chkRn p s = 0
  · rw [if_pos h]
    have := chkRn_zero.1 h
    exact ⟨fun k => ⟨this.1, this.2, k⟩, fun k => k.2.2⟩
  · rw [if_neg h]
    exact ⟨fun k => absurd k h, fun k => absurd (chkRn_zero.2 ⟨k.1, k.2.1⟩) h⟩
theorem bh_trans {a b c : Rn} (hb : RnOk b) (h : Bh b a) (k : Bh c b) : Bh c a := by
  unfold Bh RnOk at *
  omega
theorem chkAll_snoc : ∀ {xs : List Rn} {p : Option Rn} {s : Rn}, chkAll p (xs ++ [s]) = 0 ↔ chkAll p xs = 0 ∧ RnOk s ∧ okB (match xs.getLast? with | none => p | some l => some l) s
  | [], p, s => by
    rw [List.nil_append, chkAll_cons]
    exact ⟨fun h => ⟨rfl, h.1, h.2.1⟩, fun h => ⟨h.2.1, h.2.2, rfl⟩⟩
  | x :: xs, p, s => by
    rw [List.cons_append, chkAll_cons, chkAll_cons, chkAll_snoc]
    cases xs with
    | nil => simp only [List.getLast?_nil, List.getLast?_singleton]; exact ⟨fun h => ⟨⟨h.1, h.2.1, h.2.2.1⟩, h.2.2.2⟩, fun h => ⟨h.1.1, h.1.2.1, h.1.2.2, h.2⟩⟩
    | cons y ys =>
      rw [List.getLast?_cons_cons]
      obtain ⟨l, hl⟩ : ∃ l, (y :: ys).getLast? = some l := ⟨_, List.getLast?_eq_some_getLast (by simp)⟩
      rw [hl]
      exact ⟨fun h => ⟨⟨h.1, h.2.1, h.2.2.1⟩, h.2.2.2⟩, fun h => ⟨h.1.1, h.1.2.1, h.1.2.2, h.2⟩⟩
/-- Runs of a valid region: each is all right, and later ones lie behind. -/
theorem chkAll_all : ∀ {xs : List Rn} {p : Option Rn}, chkAll p xs = 0 → (∀ s ∈ xs, RnOk s ∧ okB p s) ∧ ∀ (i j : Nat) (a b : Rn), i < j → xs[i]? = some a → xs[j]? = some b → Bh b a
  | [], p, _ => ⟨fun s hs => (by cases hs), fun i j a b _ h => (by simp at h)⟩
  | x :: xs, p, h => by
    obtain ⟨h1, h2, h3⟩ := chkAll_cons.1 h
    obtain ⟨k1, k2⟩ := chkAll_all h3
    refine ⟨fun s hs => ?_, fun i j a b hij ha hb => ?_⟩
    · rcases List.mem_cons.1 hs with rfl | hs
      · exact ⟨h1, h2⟩
      · refine ⟨(k1 s hs).1, ?_⟩
        have := (k1 s hs).2
        cases p with
        | none => trivial
        | some l => exact bh_trans h1 h2 this
    · cases j with
      | zero => omega
      | succ j =>
        have hb' : xs[j]? = some b := by simpa using hb
        cases i with
        | zero =>
          obtain rfl : x = a := by simpa using ha
          exact (k1 b (List.mem_of_getElem? hb')).2
        | succ i => exact k2 i j a b (by omega) (by simpa using ha) hb'
theorem chk_all {xs : List Rn} (h : chk xs = 0) : (∀ s ∈ xs, RnOk s) ∧ ∀ (i j : Nat) (a b : Rn), i < j → xs[i]? = some a → xs[j]? = some b → Bh b a :=
  ⟨fun s hs => ((chkAll_all h).1 s hs).1, (chkAll_all h).2⟩

/-! ### cells -/
def hasR (r : Rn) (x y : Int) : Bool := decide (r.y = y ∧ r.a ≤ x ∧ x < r.b)
/-- Whether the region has the cell. -/
def has (ss : List Rn) (x y : Int) : Bool := ss.any fun r => hasR r x y
theorem has_cons (r : Rn) (ss : List Rn) (x y : Int) : has (r :: ss) x y = (hasR r x y || has ss x y) := rfl
theorem has_iff {ss : List Rn} {x y : Int} : has ss x y = true ↔ ∃ r ∈ ss, r.y = y ∧ r.a ≤ x ∧ x < r.b := by
  unfold has hasR
  simp [List.any_eq_true]
theorem has_snoc (ss : List Rn) (r : Rn) (x y : Int) : has (ss ++ [r]) x y = (has ss x y || hasR r x y) := by
  unfold has; simp

/-- A set of cells is written in one way. -/
theorem has_inj : ∀ {xs ys : List Rn} {p q : Option Rn}, chkAll p xs = 0 → chkAll q ys = 0 → (∀ x y, has xs x y = has ys x y) → xs = ys
  | [], [], _, _, _, _, _ => rfl
  | [], s :: ys, _, _, _, h, k => by
    obtain ⟨h1, -, -⟩ := chkAll_cons.1 h
    have := k s.a s.y
    have e : has (s :: ys) s.a s.y = true := has_iff.2 ⟨s, by simp, rfl, Int.le_refl _, h1.2⟩
    rw [e] at this
    cases this
  | r :: xs, [], _, _, h, _, k => by
    obtain ⟨h1, -, -⟩ := chkAll_cons.1 h
    have := k r.a r.y
    have e : has (r :: xs) r.a r.y = true := has_iff.2 ⟨r, by simp, rfl, Int.le_refl _, h1.2⟩
    rw [e] at this
    cases this
  | r :: xs, s :: ys, _, _, hx, hy, k => by
    obtain ⟨r1, -, r3⟩ := chkAll_cons.1 hx
    obtain ⟨s1, -, s3⟩ := chkAll_cons.1 hy
    have rb := (chkAll_all r3).1
    have sb := (chkAll_all s3).1
    have key : ∀ {u : Rn} {zs : List Rn}, (∀ t ∈ zs, RnOk t ∧ okB (some u) t) → RnOk u → ∀ x y, has (u :: zs) x y = true → (u.y = y ∧ u.a ≤ x ∧ x < u.b) ∨ (u.y < y ∨ u.y = y ∧ u.b < x) := by
      intro u zs hz hu x y hh
      obtain ⟨t, ht, e1, e2, e3⟩ := has_iff.1 hh
      rcases List.mem_cons.1 ht with rfl | ht
      · exact .inl ⟨e1, e2, e3⟩
      · have h2 : Bh t u := (hz t ht).2
        unfold Bh at h2
        exact .inr (by omega)
    have inR : has (s :: ys) r.a r.y = true := by rw [← k]; exact has_iff.2 ⟨r, by simp, rfl, Int.le_refl _, r1.2⟩
    have inS : has (r :: xs) s.a s.y = true := by rw [k]; exact has_iff.2 ⟨s, by simp, rfl, Int.le_refl _, s1.2⟩
    have a1 := key sb s1 _ _ inR
    have a2 := key rb r1 _ _ inS
    have r2 := r1.2
    have s2 := s1.2
    have e0 : r.y = s.y ∧ r.a = s.a := by omega
    have e1 : r.b = s.b := by
      rcases Int.lt_trichotomy r.b s.b with h | h | h
      · have : has (r :: xs) r.b r.y = true := by rw [k]; exact has_iff.2 ⟨s, by simp, by omega, by omega, h⟩
        have := key rb r1 _ _ this
        omega
      · exact h
      · have : has (s :: ys) s.b s.y = true := by rw [← k]; exact has_iff.2 ⟨r, by simp, by omega, by omega, h⟩
        have := key sb s1 _ _ this
        omega
    obtain rfl : r = s := Rn.ext' ⟨e0.1, e0.2, e1⟩
    rw [has_inj r3 s3 fun x y => ?_]
    have h0 := k x y
    rw [has_cons, has_cons] at h0
    have no : ∀ {zs : List Rn}, (∀ t ∈ zs, RnOk t ∧ okB (some r) t) → hasR r x y = true → has zs x y = false := by
      intro zs hz hr
      cases e : has zs x y
      · rfl
      · obtain ⟨t, ht, f1, f2, f3⟩ := has_iff.1 e
        have h2 : Bh t r := (hz t ht).2
        unfold Bh at h2
        unfold hasR at hr
        have := of_decide_eq_true hr
        omega
    cases hr : hasR r x y
    · rw [hr] at h0; simpa using h0
    · rw [no rb hr, no sb hr]

/-! ### edges -/
def ky (x y : Int) : Int := y * 100000 + x
/-- The k-th edge; behind the last one a point behind all. -/
def edge (ss : List Rn) (k : Nat) : P2 := match ss[k / 2]? with
  | none => ⟨0, 8192⟩
  | some r => if k % 2 = 1 then ⟨r.b, r.y⟩ else ⟨r.a, r.y⟩
def ek (ss : List Rn) (k : Nat) : Int := ky (edge ss k).x (edge ss k).y
theorem edge_even {ss : List Rn} {j : Nat} {r : Rn} (h : ss[j]? = some r) : edge ss (2 * j) = ⟨r.a, r.y⟩ := by
  unfold edge
  rw [show 2 * j / 2 = j by omega, h, show 2 * j % 2 = 0 by omega]
  rfl
theorem edge_odd {ss : List Rn} {j : Nat} {r : Rn} (h : ss[j]? = some r) : edge ss (2 * j + 1) = ⟨r.b, r.y⟩ := by
  unfold edge
  rw [show (2 * j + 1) / 2 = j by omega, h, show (2 * j + 1) % 2 = 1 by omega]
  rfl
theorem edge_over {ss : List Rn} {k : Nat} (h : 2 * ss.length ≤ k) : edge ss k = ⟨0, 8192⟩ := by
  unfold edge
  rw [List.getElem?_eq_none (by omega)]
/-- A true edge lies among the permitted ones. -/
theorem edge_in {ss : List Rn} (hv : chk ss = 0) {k : Nat} (h : k < 2 * ss.length) : (-8192 ≤ (edge ss k).x ∧ (edge ss k).x ≤ 8192) ∧ (-8192 ≤ (edge ss k).y ∧ (edge ss k).y ≤ 8191) := by
  have hj : k / 2 < ss.length := by omega
  have hr := (chk_all hv).1 _ (List.getElem_mem hj)
  unfold RnOk RnIn at hr
  unfold edge
  rw [List.getElem?_eq_getElem hj]
  simp only
  split
  · exact ⟨hr.1.2.2, hr.1.1⟩
  · exact ⟨hr.1.2.1, hr.1.1⟩
theorem ek_step {ss : List Rn} (hv : chk ss = 0) {k : Nat} (h : k < 2 * ss.length) : ek ss k < ek ss (k + 1) := by
  have hj : k / 2 < ss.length := by omega
  obtain ⟨h1, h2⟩ := chk_all hv
  have hr := h1 _ (List.getElem_mem hj)
  have e0 : ss[k / 2]? = some ss[k / 2] := List.getElem?_eq_getElem hj
  unfold RnOk RnIn at hr
  rcases (show k % 2 = 0 ∨ k % 2 = 1 by omega) with hp | hp
  · have a1 := edge_even e0
    have a2 := edge_odd e0
    rw [show 2 * (k / 2) = k by omega] at a1 a2
    unfold ek ky
    rw [a1, a2]
    simp only
    omega
  · have a1 := edge_odd e0
    rw [show 2 * (k / 2) + 1 = k by omega] at a1
    by_cases hl : k / 2 + 1 < ss.length
    · have e1 : ss[k / 2 + 1]? = some ss[k / 2 + 1] := List.getElem?_eq_getElem hl
      have a2 := edge_even e1
      rw [show 2 * (k / 2 + 1) = k + 1 by omega] at a2
      have hb := h2 _ _ _ _ (Nat.lt_succ_self _) e0 e1
      have hs := h1 _ (List.getElem_mem hl)
      unfold Bh at hb
      unfold RnOk RnIn at hs
      unfold ek ky
      rw [a1, a2]
      simp only
      omega
    · have a2 := edge_over (ss := ss) (k := k + 1) (by omega)
      unfold ek ky
      rw [a1, a2]
      simp only
      omega
theorem ek_lt {ss : List Rn} (hv : chk ss = 0) {k l : Nat} (hkl : k < l) (h : l ≤ 2 * ss.length) : ek ss k < ek ss l := by
  induction l with
  | zero => omega
  | succ l ih =>
    rcases Nat.lt_or_ge k l with h1 | h1
    · have := ih h1 (by omega)
      have := ek_step hv (k := l) (by omega)
      omega
    · obtain rfl : k = l := by omega
      exact ek_step hv (by omega)
theorem ek_top {ss : List Rn} (hv : chk ss = 0) {k : Nat} (h : k < 2 * ss.length) : -900000000 < ek ss k ∧ ek ss k < 819200000 := by
  have := edge_in hv h
  unfold ek ky
  omega

/-- Whether the region has the cell at a key. -/
def inn (ss : List Rn) (z : Int) : Bool := ss.any fun r => decide (ky r.a r.y ≤ z ∧ z < ky r.b r.y)
theorem inn_iff {ss : List Rn} {z : Int} : inn ss z = true ↔ ∃ r ∈ ss, ky r.a r.y ≤ z ∧ z < ky r.b r.y := by
  unfold inn
  simp [List.any_eq_true]
theorem inn_snoc (ss : List Rn) (r : Rn) (z : Int) : inn (ss ++ [r]) z = (inn ss z || decide (ky r.a r.y ≤ z ∧ z < ky r.b r.y)) := by
  unfold inn; simp
theorem has_inn {ss : List Rn} (hv : ∀ s ∈ ss, RnOk s) (x y : Int) : has ss x y = (decide (-8192 ≤ x ∧ x < 8192) && inn ss (ky x y)) := by
  rw [Bool.eq_iff_iff, Bool.and_eq_true, decide_eq_true_eq, has_iff, inn_iff]
  constructor
  · rintro ⟨r, hr, h1, h2, h3⟩
    have := hv r hr
    unfold RnOk RnIn at this
    refine ⟨by omega, r, hr, ?_⟩
    unfold ky
    omega
  · rintro ⟨h0, r, hr, h1⟩
    have := hv r hr
    unfold RnOk RnIn at this
    unfold ky at h1
    exact ⟨r, hr, by omega⟩

/-- Just the first p edges lie at z or ahead of it. -/
def Pos (ss : List Rn) (p : Nat) (z : Int) : Prop := p ≤ 2 * ss.length ∧ ∀ k, k < 2 * ss.length → (k < p ↔ ek ss k ≤ z)
theorem Pos.inn {ss : List Rn} {p : Nat} {z : Int} (h : Pos ss p z) : inn ss z = decide (p % 2 = 1) := by
  rw [Bool.eq_iff_iff, decide_eq_true_eq, inn_iff]
  constructor
  · rintro ⟨r, hr, h1, h2⟩
    obtain ⟨j, hj, rfl⟩ := List.getElem_of_mem hr
    have e0 : ss[j]? = some ss[j] := List.getElem?_eq_getElem hj
    have k1 := h.2 (2 * j) (by omega)
    have k2 := h.2 (2 * j + 1) (by omega)
    unfold ek at k1 k2
    rw [edge_even e0] at k1
    rw [edge_odd e0] at k2
    simp only at k1 k2
    have a1 := k1.2 h1
    have a2 : ¬ (2 * j + 1 < p) := fun k => by have := k2.1 k; omega
    omega
  · intro hp
    have h0 := h.1
    have hj : p / 2 < ss.length := by omega
    have e0 : ss[p / 2]? = some ss[p / 2] := List.getElem?_eq_getElem hj
    have k1 := h.2 (2 * (p / 2)) (by omega)
    have k2 := h.2 (2 * (p / 2) + 1) (by omega)
    unfold ek at k1 k2
    rw [edge_even e0] at k1
    rw [edge_odd e0] at k2
    simp only at k1 k2
    refine ⟨_, List.getElem_mem hj, k1.1 (by omega), ?_⟩
    rcases Int.lt_or_le z (ky ss[p / 2].b ss[p / 2].y) with k | k
    · exact k
    · have := k2.2 k; omega
theorem Pos.next {ss : List Rn} (hv : chk ss = 0) {p : Nat} {z z1 : Int} (h : Pos ss p z) (hz : z < z1) (hm : z1 ≤ ek ss p) (q : Nat) (hq : q = if p < 2 * ss.length ∧ ek ss p = z1 then p + 1 else p) : Pos ss q z1 := by
  have h0 := h.1
  by_cases hc : p < 2 * ss.length ∧ ek ss p = z1
  · rw [if_pos hc] at hq
    subst hq
    refine ⟨by omega, fun k hk => ?_⟩
    rcases Nat.lt_trichotomy k p with h1 | h1 | h1
    · have := (h.2 k hk).1 h1; omega
    · subst h1; omega
    · have := ek_lt hv h1 (by omega); omega
  · rw [if_neg hc] at hq
    subst hq
    refine ⟨h0, fun k hk => ?_⟩
    rcases Nat.lt_trichotomy k q with h1 | h1 | h1
    · have := (h.2 k hk).1 h1; omega
    · subst h1
      have : ek ss k ≠ z1 := fun e => hc ⟨hk, e⟩
      omega
    · have := ek_lt hv h1 (by omega); omega
/-- Between two edges. -/
theorem Pos.between {ss : List Rn} (hv : chk ss = 0) {p : Nat} {z z1 : Int} (h : Pos ss p z) (hm : z1 ≤ ek ss p) {u : Int} (h1 : z ≤ u) (h2 : u < z1) : Pos ss p u := by
  refine ⟨h.1, fun k hk => ?_⟩
  rcases Nat.lt_trichotomy k p with k1 | k1 | k1
  · have := (h.2 k hk).1 k1; omega
  · subst k1; omega
  · have := ek_lt hv k1 (by omega); omega
theorem Pos.ahead {ss : List Rn} (hv : chk ss = 0) {p : Nat} {z : Int} (h : Pos ss p z) (hp : p < 2 * ss.length) : z < ek ss p := by
  have := h.2 p hp
  rcases Int.lt_or_le z (ek ss p) with k | k
  · exact k
  · have := this.2 k; omega

end Go.Proofs.Ytijkoaggcmgjiaa
