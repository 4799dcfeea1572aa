/- Rows and borders of the reference's Dilated and Eroded. Without a program. -/
import Derived.Test.YtldbpabnfjnpbaaMAro
import Derived.Test.YtldbpabnfjnpbaaCmbD
namespace Go.Proofs.Ytldbpabnfjnpbaa
open Go
set_option linter.unusedVariables false

/-- The borders of a row among the first k runs: g and h of those that are chosen. -/
structure BordG (p : Rn → Prop) (g h : Rn → Int) (all : List Rn) (k : Nat) (bs : List Int) : Prop where
  s : Sorted bs
  m : ∀ b, b ∈ bs ↔ ∃ r ∈ all.take k, p r ∧ (b = g r ∨ b = h r)
  n : bs.length ≤ 2 * k
theorem BordG.start (p : Rn → Prop) (g h : Rn → Int) (all : List Rn) : BordG p g h all 0 [] := ⟨List.Pairwise.nil, fun b => by simp, Nat.le_refl _⟩
theorem BordG.next {p : Rn → Prop} {g h : Rn → Int} {all : List Rn} {k : Nat} {bs r1 r2 : List Int} (H : BordG p g h all k bs) (hk : k < all.length) (hp : p all[k]) (h1 : PutOf bs (g all[k]) r1) (h2 : PutOf r1 (h all[k]) r2) : BordG p g h all (k + 1) r2 := by
  refine ⟨h2.sorted (h1.sorted H.s), fun b => ?_, by have := h1.len; have := h2.len; have := H.n; omega⟩
  rw [h2.mem, h1.mem, H.m, List.take_succ_eq_append_getElem hk]
  constructor
  · rintro (rfl | rfl | ⟨r, hr, e⟩)
    · exact ⟨_, List.mem_append_right _ (List.mem_singleton.2 rfl), hp, .inr rfl⟩
    · exact ⟨_, List.mem_append_right _ (List.mem_singleton.2 rfl), hp, .inl rfl⟩
    · exact ⟨r, List.mem_append_left _ hr, e⟩
  · rintro ⟨r, hr, e1, e2⟩
    rcases List.mem_append.1 hr with hr | hr
    · exact .inr (.inr ⟨r, hr, e1, e2⟩)
    · rw [List.mem_singleton] at hr
      subst hr
      rcases e2 with e2 | e2
      · exact .inr (.inl e2)
      · exact .inl e2
theorem BordG.skip {p : Rn → Prop} {g h : Rn → Int} {all : List Rn} {k : Nat} {bs : List Int} (H : BordG p g h all k bs) (hk : k < all.length) (hp : ¬ p all[k]) : BordG p g h all (k + 1) bs := by
  refine ⟨H.s, fun b => ?_, by have := H.n; omega⟩
  rw [H.m, List.take_succ_eq_append_getElem hk]
  constructor
  · rintro ⟨r, hr, e⟩
    exact ⟨r, List.mem_append_left _ hr, e⟩
  · rintro ⟨r, hr, e1, e2⟩
    rcases List.mem_append.1 hr with hr | hr
    · exact ⟨r, hr, e1, e2⟩
    · rw [List.mem_singleton] at hr; subst hr; exact absurd e1 hp
/-- The run reaches row y. -/
def near_ (d y : Int) (r : Rn) : Prop := y - d ≤ r.y ∧ r.y ≤ y + d
instance (d y : Int) (r : Rn) : Decidable (near_ d y r) := inferInstanceAs (Decidable (_ ∧ _))
theorem wrap_len {bs : List Int} {a b : Int} (h : Sorted bs) (ha : a ∈ bs) (hb : b ∈ bs) (hab : a ≠ b) : 2 ≤ bs.length := by
  obtain ⟨i, hi, e1⟩ := List.getElem_of_mem ha
  obtain ⟨j, hj, e2⟩ := List.getElem_of_mem hb
  have : i ≠ j := fun e => by subst e; exact hab (e1.symm.trans e2)
  omega

/-! ### Eroded -/
theorem aro_iff {ss : List Rn} {x y : Int} {d : Nat} : aroB ss x y d = true ↔ ∀ row, y - d ≤ row → row ≤ y + d → ∃ s ∈ ss, s.y = row ∧ s.a ≤ x - d ∧ x + d < s.b := by
  unfold aroB rowB spanR
  rw [List.all_eq_true]
  constructor
  · intro h row h1 h2
    have := h (row - (y - d)).toNat (List.mem_range.2 (by omega))
    rw [List.any_eq_true] at this
    obtain ⟨s, hs, e⟩ := this
    have e := of_decide_eq_true e
    exact ⟨s, hs, by omega, e.2⟩
  · intro h k hk
    have hk := List.mem_range.1 hk
    obtain ⟨s, hs, e1, e2⟩ := h (y - d + (k : Int)) (by omega) (by omega)
    rw [List.any_eq_true]
    exact ⟨s, hs, decide_eq_true ⟨e1, e2⟩⟩
theorem bord_ero {ss : List Rn} {y : Int} {d : Nat} {bs : List Int} (H : BordG (near_ d y) (fun r => r.a + d) (fun r => r.b - d) ss ss.length bs) : BordF (fun x y => aroB ss x y d) y bs := by
  have hm := H.m
  rw [List.take_length] at hm
  refine BordF.of H.s (fun x z hxz hne => ?_) (fun x hx => ?_) (fun x hx => ?_)
  · have one : ∀ u v : Int, aroB ss u y d = true → aroB ss v y d = false → ∃ row s, (y - d ≤ row ∧ row ≤ y + d) ∧ s ∈ ss ∧ s.y = row ∧ s.a ≤ u - d ∧ u + d < s.b ∧ ¬ (s.a ≤ v - d ∧ v + d < s.b) := by
      intro u v hu hv
      have : ¬ ∀ row, y - d ≤ row → row ≤ y + d → ∃ s ∈ ss, s.y = row ∧ s.a ≤ v - d ∧ v + d < s.b := fun h => by rw [aro_iff.2 h] at hv; cases hv
      rcases Classical.not_forall.1 this with ⟨row, h1⟩
      rcases Classical.not_forall.1 h1 with ⟨h2, h3⟩
      rcases Classical.not_forall.1 h3 with ⟨h4, h5⟩
      obtain ⟨s, hs, e1, e2, e3⟩ := aro_iff.1 hu row h2 h4
      exact ⟨row, s, ⟨h2, h4⟩, hs, e1, e2, e3, fun q => h5 ⟨s, hs, e1, q⟩⟩
    cases ex : aroB ss x y d <;> cases ez : aroB ss z y d
    · exact absurd (ex.trans ez.symm) hne
    · obtain ⟨row, s, hr, hs, e1, e2, e3, e4⟩ := one z x ez ex
      exact ⟨s.a + d, (hm _).2 ⟨s, hs, by unfold near_; omega, .inl rfl⟩, by omega, by omega⟩
    · obtain ⟨row, s, hr, hs, e1, e2, e3, e4⟩ := one x z ex ez
      exact ⟨s.b - d, (hm _).2 ⟨s, hs, by unfold near_; omega, .inr rfl⟩, by omega, by omega⟩
    · exact absurd (ex.trans ez.symm) hne
  · cases ex : aroB ss x y d
    · rfl
    · obtain ⟨s, hs, e1, e2, e3⟩ := aro_iff.1 ex y (by omega) (by omega)
      have := hx _ ((hm _).2 ⟨s, hs, by unfold near_; omega, .inl rfl⟩)
      omega
  · cases ex : aroB ss x y d
    · rfl
    · obtain ⟨s, hs, e1, e2, e3⟩ := aro_iff.1 ex y (by omega) (by omega)
      have := hx _ ((hm _).2 ⟨s, hs, by unfold near_; omega, .inr rfl⟩)
      omega
theorem aro_row {ss : List Rn} {x y : Int} {d : Nat} (h : aroB ss x y d = true) : ∃ r ∈ ss, r.y = y ∧ r.a ≤ x ∧ x < r.b := by
  obtain ⟨s, hs, e1, e2, e3⟩ := aro_iff.1 h y (by omega) (by omega)
  exact ⟨s, hs, e1, by omega, by omega⟩
theorem aro_perm {ss : List Rn} (hc : chk ss = 0) {x y : Int} {d : Nat} (h : aroB ss x y d = true) : Perm x y := has_perm hc (has_iff.2 (aro_row h))
theorem ero_done {ss out : List Rn} {d : Nat} (hc : chk ss = 0) (h : chk out = 0 ∧ ∀ x y, has out x y = aroB ss x y d) : Ero ss d out := by
  refine ⟨h.1, fun x y => ?_⟩
  rw [h.2, aro_iff]
  constructor
  · intro k dx dy h1 h2
    obtain ⟨s, hs, e1, e2, e3⟩ := k (y + dy) (by omega) (by omega)
    exact has_iff.2 ⟨s, hs, e1, by omega, by omega⟩
  · intro k row h1 h2
    obtain ⟨s, hs, e1, e2, e3⟩ := one_run hc (x0 := x - d) (x1 := x + d) (y := row) (by omega) (fun x' a b => by
      have := k (x' - x) (row - y) (by omega) (by omega)
      rwa [show x + (x' - x) = x' by omega, show y + (row - y) = row by omega] at this)
    exact ⟨s, hs, e1, e2, e3⟩

/-! ### Dilated -/
def nearR (d : Nat) (x y : Int) (r : Rn) : Bool := decide (near_ d y r ∧ r.a - d ≤ x ∧ x < r.b + d)
def dilB (ss : List Rn) (d : Nat) (x y : Int) : Bool := decide (Perm x y) && ss.any (nearR d x y)
theorem dil_iff {ss : List Rn} {d : Nat} {x y : Int} : dilB ss d x y = true ↔ Perm x y ∧ ∃ r ∈ ss, near_ d y r ∧ r.a - d ≤ x ∧ x < r.b + d := by
  unfold dilB nearR
  rw [Bool.and_eq_true, decide_eq_true_eq, List.any_eq_true]
  simp only [decide_eq_true_eq]
theorem bord_dil {ss : List Rn} {y : Int} {d : Nat} {bs : List Int} (hy : -8192 ≤ y ∧ y ≤ 8191) (H : BordG (near_ d y) (fun r => max (r.a - d) (-8192)) (fun r => min (r.b + d) 8192) ss ss.length bs) : BordF (dilB ss d) y bs := by
  have hm := H.m
  rw [List.take_length] at hm
  have one : ∀ u v : Int, dilB ss d u y = true → dilB ss d v y = false → Perm u y ∧ ∃ s ∈ ss, near_ d y s ∧ s.a - d ≤ u ∧ u < s.b + d ∧ ¬ ((-8192 ≤ v ∧ v ≤ 8191) ∧ s.a - d ≤ v ∧ v < s.b + d) := by
    intro u v hu hv
    obtain ⟨hp, s, hs, e1, e2, e3⟩ := dil_iff.1 hu
    exact ⟨hp, s, hs, e1, e2, e3, fun q => by rw [dil_iff.2 ⟨⟨q.1, hy⟩, s, hs, e1, q.2⟩] at hv; cases hv⟩
  refine BordF.of H.s (fun x z hxz hne => ?_) (fun x hx => ?_) (fun x hx => ?_)
  · cases ex : dilB ss d x y <;> cases ez : dilB ss d z y
    · exact absurd (ex.trans ez.symm) hne
    · obtain ⟨hp, s, hs, e1, e2, e3, e4⟩ := one z x ez ex
      unfold Perm at hp
      exact ⟨_, (hm _).2 ⟨s, hs, e1, .inl rfl⟩, by omega, by omega⟩
    · obtain ⟨hp, s, hs, e1, e2, e3, e4⟩ := one x z ex ez
      unfold Perm at hp
      exact ⟨_, (hm _).2 ⟨s, hs, e1, .inr rfl⟩, by omega, by omega⟩
    · exact absurd (ex.trans ez.symm) hne
  · cases ex : dilB ss d x y
    · rfl
    · obtain ⟨hp, s, hs, e1, e2, e3⟩ := dil_iff.1 ex
      unfold Perm at hp
      have := hx _ ((hm _).2 ⟨s, hs, e1, .inl rfl⟩)
      omega
  · cases ex : dilB ss d x y
    · rfl
    · obtain ⟨hp, s, hs, e1, e2, e3⟩ := dil_iff.1 ex
      unfold Perm at hp
      have := hx _ ((hm _).2 ⟨s, hs, e1, .inr rfl⟩)
      omega
theorem dil_done {ss out : List Rn} {d : Nat} (hc : chk ss = 0) (h : chk out = 0 ∧ ∀ x y, has out x y = dilB ss d x y) : Dil ss d out := by
  refine ⟨h.1, fun x y => ?_⟩
  rw [h.2, dil_iff]
  constructor
  · rintro ⟨hp, r, hr, e1, e2, e3⟩
    unfold near_ at e1
    refine ⟨hp, ?_⟩
    have hlt := (rnok_iff.1 ((chk_all hc).1 r hr)).2
    · rcases Int.lt_or_le x r.a with k | k
      · exact ⟨r.a - x, r.y - y, by omega, by omega, has_iff.2 ⟨r, hr, by omega, by omega, by omega⟩⟩
      · rcases Int.lt_or_le x r.b with k2 | k2
        · exact ⟨0, r.y - y, by omega, by omega, has_iff.2 ⟨r, hr, by omega, by omega, by omega⟩⟩
        · exact ⟨r.b - 1 - x, r.y - y, by omega, by omega, has_iff.2 ⟨r, hr, by omega, by omega, by omega⟩⟩
  · rintro ⟨hp, dx, dy, h1, h2, k⟩
    obtain ⟨r, hr, e1, e2, e3⟩ := has_iff.1 k
    exact ⟨hp, r, hr, by unfold near_; omega, by omega, by omega⟩
/-- The rows that the runs reach. -/
structure RowsD (p : Int → Prop) (M : Nat) (zs : List Int) : Prop where
  s : Sorted zs
  m : ∀ y, y ∈ zs ↔ (-8192 ≤ y ∧ y ≤ 8191) ∧ p y
  n : zs.length ≤ M
theorem RowsD.start : RowsD (fun _ => False) 0 [] := ⟨List.Pairwise.nil, fun y => by simp, Nat.le_refl _⟩
theorem RowsD.put {p q : Int → Prop} {M : Nat} {zs res : List Int} {y : Int} (h : RowsD p M zs) (hy : -8192 ≤ y ∧ y ≤ 8191) (hp : PutOf zs y res) (hq : ∀ z, q z ↔ p z ∨ z = y) : RowsD q (M + 1) res := by
  refine ⟨hp.sorted h.s, fun z => ?_, by have := hp.len; have := h.n; omega⟩
  rw [hp.mem, h.m, hq]
  constructor
  · rintro (rfl | ⟨h1, h2⟩)
    · exact ⟨hy, .inr rfl⟩
    · exact ⟨h1, .inl h2⟩
  · rintro ⟨h1, h2 | h2⟩
    · exact .inr ⟨h1, h2⟩
    · exact .inl h2
theorem RowsD.pass {p q : Int → Prop} {M : Nat} {zs : List Int} {y : Int} (h : RowsD p M zs) (hy : ¬ (-8192 ≤ y ∧ y ≤ 8191)) (hq : ∀ z, q z ↔ p z ∨ z = y) : RowsD q (M + 1) zs := by
  refine ⟨h.s, fun z => ?_, by have := h.n; omega⟩
  rw [h.m, hq]
  constructor
  · rintro ⟨h1, h2⟩; exact ⟨h1, .inl h2⟩
  · rintro ⟨h1, h2 | h2⟩
    · exact ⟨h1, h2⟩
    · subst h2; exact absurd h1 hy
theorem RowsD.of {p q : Int → Prop} {M N : Nat} {zs : List Int} (h : RowsD p M zs) (hq : ∀ z, q z ↔ p z) (hN : M ≤ N) : RowsD q N zs := ⟨h.s, fun z => by rw [h.m, hq], Nat.le_trans h.n hN⟩

end Go.Proofs.Ytldbpabnfjnpbaa
