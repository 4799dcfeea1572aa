/- The walk over the edges of two regions: what stands at each step, and what it ends in. Without a program. -/
import Derived.Test.YtijkoaggcmgjiaaOps
namespace Go.Proofs.Ytijkoaggcmgjiaa
open Go
set_option linter.unusedVariables false

/-- res is the valid region of the cells that keep chooses. -/
structure IsOp (keep : Bool → Bool → Bool) (a b res : List Rn) : Prop where
  v : chk res = 0
  h : ∀ x y, has res x y = keep (has a x y) (has b x y)
theorem IsOp.uniq {keep : Bool → Bool → Bool} {a b r s : List Rn} (h : IsOp keep a b r) (k : IsOp keep a b s) : r = s := has_inj h.v k.v fun x y => by rw [h.h, k.h]

def cmpI (x y : Int) : Int := if x < y then -1 else if y < x then 1 else 0
def cmpP (p q : P2) : Int := if p.y ≠ q.y then cmpI p.y q.y else cmpI p.x q.x
theorem cmpP_neg {p q : P2} : cmpP p q < 0 ↔ p.y < q.y ∨ p.y = q.y ∧ p.x < q.x := by
  unfold cmpP cmpI
  by_cases h : p.y = q.y
  · rw [if_neg (by simpa using h)]
    split
    · omega
    · split <;> omega
  · rw [if_pos h]
    split
    · omega
    · split <;> omega
/-- The next edge of both. -/
def nxt (a b : List Rn) (pa pb : Nat) : P2 := if cmpP (edge b pb) (edge a pa) < 0 then edge b pb else edge a pa
def adv (ss : List Rn) (p : Nat) (q : P2) : Nat := if p < 2 * ss.length ∧ edge ss p = q then p + 1 else p
def odd (p : Nat) : Bool := decide (p % 2 = 1)
def opn : Option P2 → List Rn
  | none => []
  | some s => [⟨s.y, s.x, 0⟩]
def opnIn : Option P2 → Int → Bool
  | none, _ => false
  | some s, z => decide (ky s.x s.y ≤ z)
def opnOk (C : List Rn) (z0 : Int) : Option P2 → Prop
  | none => True
  | some s => (-8192 ≤ s.x ∧ s.x ≤ 8192) ∧ (-8192 ≤ s.y ∧ s.y ≤ 8191) ∧ ky s.x s.y ≤ z0 ∧ ∀ r ∈ C, ky r.b r.y < ky s.x s.y

structure CInv (keep : Bool → Bool → Bool) (a b : List Rn) (pa pb : Nat) (kept : Bool) (res C : List Rn) (O : Option P2) (z0 : Int) : Prop where
  r : res = C ++ opn O
  k : kept = O.isSome
  xa : Pos a pa z0
  xb : Pos b pb z0
  kk : kept = keep (odd pa) (odd pb)
  v : chk C = 0
  e : ∀ r ∈ C, ky r.b r.y ≤ z0
  o : opnOk C z0 O
  s : ∀ z, z < z0 → (inn C z || opnIn O z) = keep (inn a z) (inn b z)
  n : res.length ≤ pa + pb
def CI (keep : Bool → Bool → Bool) (a b : List Rn) (pa pb : Nat) (kept : Bool) (res : List Rn) : Prop := ∃ C O z0, CInv keep a b pa pb kept res C O z0

theorem inn_low {ss : List Rn} (hv : chk ss = 0) {z : Int} (hz : z < -900000000) : inn ss z = false := by
  cases e : inn ss z
  · rfl
  · obtain ⟨r, hr, h1, h2⟩ := inn_iff.1 e
    have := (chk_all hv).1 r hr
    unfold RnOk RnIn at this
    unfold ky at h1
    omega
theorem CI.start {keep : Bool → Bool → Bool} (h0 : keep false false = false) {a b : List Rn} (ha : chk a = 0) (hb : chk b = 0) : CI keep a b 0 0 false [] := by
  refine ⟨[], none, -900000001, rfl, rfl, ⟨by omega, fun k hk => ?_⟩, ⟨by omega, fun k hk => ?_⟩, h0.symm, rfl, fun r hr => (by cases hr), trivial, fun z hz => ?_, Nat.le_refl _⟩
  · have := ek_top ha hk; omega
  · have := ek_top hb hk; omega
  · rw [inn_low ha (by omega), inn_low hb (by omega), h0]; rfl

section
variable {keep : Bool → Bool → Bool} {a b : List Rn} {pa pb : Nat} {kept : Bool} {res C : List Rn} {O : Option P2} {z0 : Int}

/-- The next edge: it is one of the two, and neither lies ahead of it. -/
theorem nxt_spec (ha : chk a = 0) (hb : chk b = 0) (hpa : pa ≤ 2 * a.length) (hpb : pb ≤ 2 * b.length) (hn : ¬ (pa = 2 * a.length ∧ pb = 2 * b.length)) :
    ky (nxt a b pa pb).x (nxt a b pa pb).y ≤ ek a pa ∧ ky (nxt a b pa pb).x (nxt a b pa pb).y ≤ ek b pb ∧
    ((pa < 2 * a.length ∧ edge a pa = nxt a b pa pb) ∨ (pb < 2 * b.length ∧ edge b pb = nxt a b pa pb)) ∧
    ((-8192 ≤ (nxt a b pa pb).x ∧ (nxt a b pa pb).x ≤ 8192) ∧ (-8192 ≤ (nxt a b pa pb).y ∧ (nxt a b pa pb).y ≤ 8191)) := by
  have ea : pa < 2 * a.length → _ := edge_in ha (k := pa)
  have eb : pb < 2 * b.length → _ := edge_in hb (k := pb)
  have oa : pa = 2 * a.length → edge a pa = ⟨0, 8192⟩ := fun e => edge_over (by omega)
  have ob : pb = 2 * b.length → edge b pb = ⟨0, 8192⟩ := fun e => edge_over (by omega)
  have hc := @cmpP_neg (edge b pb) (edge a pa)
  unfold nxt ek
  by_cases h : cmpP (edge b pb) (edge a pa) < 0
  · rw [if_pos h]
    have h' := hc.1 h
    rcases Nat.lt_or_ge pb (2 * b.length) with k | k
    · have eb := eb k
      rcases Nat.lt_or_ge pa (2 * a.length) with k2 | k2
      · have ea := ea k2
        exact ⟨by unfold ky; omega, Int.le_refl _, .inr ⟨k, rfl⟩, eb⟩
      · have := oa (by omega)
        rw [this]
        exact ⟨by unfold ky; simp only; omega, Int.le_refl _, .inr ⟨k, rfl⟩, eb⟩
    · have e := ob (by omega)
      rcases Nat.lt_or_ge pa (2 * a.length) with k2 | k2
      · have ea := ea k2
        rw [e] at h'
        simp only at h'
        omega
      · exact absurd ⟨by omega, by omega⟩ hn
  · rw [if_neg h]
    have h' : ¬ ((edge b pb).y < (edge a pa).y ∨ (edge b pb).y = (edge a pa).y ∧ (edge b pb).x < (edge a pa).x) := fun k => h (hc.2 k)
    rcases Nat.lt_or_ge pa (2 * a.length) with k | k
    · have ea := ea k
      rcases Nat.lt_or_ge pb (2 * b.length) with k2 | k2
      · have eb := eb k2
        exact ⟨Int.le_refl _, by unfold ky; omega, .inl ⟨k, rfl⟩, ea⟩
      · have := ob (by omega)
        rw [this]
        exact ⟨Int.le_refl _, by unfold ky; simp only; omega, .inl ⟨k, rfl⟩, ea⟩
    · have e := oa (by omega)
      rcases Nat.lt_or_ge pb (2 * b.length) with k2 | k2
      · have eb := eb k2
        rw [e] at h'
        simp only at h'
        omega
      · exact absurd ⟨by omega, by omega⟩ hn

theorem ek_eq {ss : List Rn} (hv : chk ss = 0) {p : Nat} (hp : p < 2 * ss.length) {q : P2} (hq : (-8192 ≤ q.x ∧ q.x ≤ 8192) ∧ (-8192 ≤ q.y ∧ q.y ≤ 8191)) : ek ss p = ky q.x q.y ↔ edge ss p = q := by
  have := edge_in hv hp
  unfold ek
  constructor
  · intro h
    unfold ky at h
    exact P2.ext' (by omega)
  · intro h; rw [h]

theorem no_gap {ss : List Rn} (hv : chk ss = 0) (y : Int) : inn ss (ky 8192 y) = false := by
  cases e : inn ss (ky 8192 y)
  · rfl
  · obtain ⟨r, hr, h1, h2⟩ := inn_iff.1 e
    have := (chk_all hv).1 r hr
    unfold RnOk RnIn at this
    unfold ky at h1 h2
    omega

theorem CInv.step (H : CInv keep a b pa pb kept res C O z0) (h0 : keep false false = false) (ha : chk a = 0) (hb : chk b = 0) (hn : ¬ (pa = 2 * a.length ∧ pb = 2 * b.length)) :
    ∃ q pa' pb', q = nxt a b pa pb ∧ pa' = adv a pa q ∧ pb' = adv b pb q ∧ pa + pb < pa' + pb' ∧ pa' ≤ 2 * a.length ∧ pb' ≤ 2 * b.length ∧
      (keep (odd pa') (odd pb') = kept → CI keep a b pa' pb' kept res) ∧
      (keep (odd pa') (odd pb') ≠ kept → kept = false → CI keep a b pa' pb' true (res ++ [⟨q.y, q.x, 0⟩])) ∧
      (keep (odd pa') (odd pb') ≠ kept → kept = true → res ≠ [] ∧ CI keep a b pa' pb' false (setEnd res q.x)) := by
  obtain ⟨n1, n2, n3, n4⟩ := nxt_spec ha hb H.xa.1 H.xb.1 hn
  generalize nxt a b pa pb = q at n1 n2 n3 n4
  have hz : z0 < ky q.x q.y := by
    rcases n3 with ⟨k1, k2⟩ | ⟨k1, k2⟩
    · have := H.xa.ahead ha k1
      rw [(ek_eq ha k1 n4).2 k2] at this
      exact this
    · have := H.xb.ahead hb k1
      rw [(ek_eq hb k1 n4).2 k2] at this
      exact this
  have qa : adv a pa q = if pa < 2 * a.length ∧ ek a pa = ky q.x q.y then pa + 1 else pa := by
    unfold adv
    by_cases k : pa < 2 * a.length
    · simp only [k, true_and, ek_eq ha k n4]
    · simp only [k, false_and]
  have qb : adv b pb q = if pb < 2 * b.length ∧ ek b pb = ky q.x q.y then pb + 1 else pb := by
    unfold adv
    by_cases k : pb < 2 * b.length
    · simp only [k, true_and, ek_eq hb k n4]
    · simp only [k, false_and]
  have Pa := H.xa.next ha hz n1 _ qa
  have Pb := H.xb.next hb hz n2 _ qb
  have mono : pa ≤ adv a pa q ∧ pb ≤ adv b pb q := by
    unfold adv
    constructor <;> split <;> omega
  have more : pa + pb < adv a pa q + adv b pb q := by
    rcases n3 with k | k
    · have : adv a pa q = pa + 1 := by unfold adv; rw [if_pos k]
      omega
    · have : adv b pb q = pb + 1 := by unfold adv; rw [if_pos k]
      omega
  -- between the two edges
  have mid : ∀ z, z0 ≤ z → z < ky q.x q.y → keep (inn a z) (inn b z) = kept := fun z h1 h2 => by
    rw [(H.xa.between ha n1 h1 h2).inn, (H.xb.between hb n2 h1 h2).inn]
    exact H.kk.symm
  have outC : ∀ z, z0 ≤ z → inn C z = false := fun z h1 => by
    cases e : inn C z
    · rfl
    · obtain ⟨r, hr, k1, k2⟩ := inn_iff.1 e
      have := H.e r hr
      omega
  have sem : ∀ z, z < ky q.x q.y → (inn C z || opnIn O z) = keep (inn a z) (inn b z) := fun z h2 => by
    rcases Int.lt_or_le z z0 with h1 | h1
    · exact H.s z h1
    · rw [mid z h1 h2, outC z h1, Bool.false_or]
      have hk := H.k
      have ho := H.o
      cases O with
      | none => rw [hk]; rfl
      | some s =>
        rw [hk]
        unfold opnOk at ho
        unfold opnIn
        exact decide_eq_true (by omega)
  refine ⟨q, adv a pa q, adv b pb q, rfl, rfl, rfl, more, Pa.1, Pb.1, fun hk => ?_, fun hk h1 => ?_, fun hk h1 => ?_⟩
  · refine ⟨C, O, ky q.x q.y, H.r, H.k, Pa, Pb, hk.symm, H.v, fun r hr => ?_, ?_, sem, ?_⟩
    · have := H.e r hr; omega
    · have ho := H.o
      cases O with
      | none => trivial
      | some s => exact ⟨ho.1, ho.2.1, by have := ho.2.2.1; omega, ho.2.2.2⟩
    · have := H.n; omega
  · have hO : O = none := by
      have := H.k
      rw [h1] at this
      cases O with
      | none => rfl
      | some s => cases this
    subst hO
    have hr : res = C := by have := H.r; simpa [opn] using this
    refine ⟨C, some q, ky q.x q.y, by rw [hr]; rfl, rfl, Pa, Pb, ?_, H.v, fun r hr => ?_, ⟨n4.1, n4.2, Int.le_refl _, fun r hr => ?_⟩, fun z hz' => ?_, ?_⟩
    · cases e : keep (odd (adv a pa q)) (odd (adv b pb q))
      · rw [e, h1] at hk; exact absurd rfl hk
      · rfl
    · have := H.e r hr; omega
    · have := H.e r hr; omega
    · rw [← sem z hz']
      have e : opnIn (some q) z = false := decide_eq_false (by omega)
      rw [e]
      rfl
    · have := H.n
      simp only [List.length_append, List.length_singleton]
      omega
  · obtain ⟨s, hO⟩ : ∃ s, O = some s := by
      have := H.k
      rw [h1] at this
      cases O with
      | none => cases this
      | some s => exact ⟨s, rfl⟩
    subst hO
    have hr : res = C ++ [⟨s.y, s.x, 0⟩] := H.r
    obtain ⟨o1, o2, o3, o4⟩ := H.o
    have hy : q.y = s.y := by
      rcases Int.lt_trichotomy q.y s.y with k | k | k
      · unfold ky at *; omega
      · exact k
      · exfalso
        have h2 := sem (ky 8192 s.y) (by unfold ky; omega)
        rw [no_gap ha, no_gap hb, h0] at h2
        have h3 : opnIn (some s) (ky 8192 s.y) = true := decide_eq_true (by unfold ky; omega)
        rw [h3] at h2
        simp at h2
    have hx : s.x < q.x := by unfold ky at *; omega
    refine ⟨by rw [hr]; simp, C ++ [⟨s.y, s.x, q.x⟩], none, ky q.x q.y, by rw [hr, setEnd_snoc]; simp [opn], rfl, Pa, Pb, ?_, ?_, fun r hr' => ?_, trivial, fun z hz' => ?_, ?_⟩
    · cases e : keep (odd (adv a pa q)) (odd (adv b pb q))
      · rfl
      · rw [e, h1] at hk; exact absurd rfl hk
    · refine chkAll_snoc.2 ⟨H.v, ⟨⟨o2, o1, n4.1⟩, hx⟩, ?_⟩
      cases e : C.getLast? with
      | none => trivial
      | some l =>
        have hl := List.mem_of_getLast? e
        have h4 := o4 l hl
        have h5 := (chk_all H.v).1 l hl
        unfold RnOk RnIn at h5
        show Bh _ _
        unfold Bh ky at *
        simp only
        omega
    · rcases List.mem_append.1 hr' with hr' | hr'
      · have := H.e r hr'; omega
      · rw [List.mem_singleton] at hr'
        subst hr'
        simp only
        rw [hy]
        exact Int.le_refl _
    · rw [← sem z hz', inn_snoc]
      unfold opnIn
      simp only
      rw [← hy] at *
      rw [Bool.or_false]
      congr 1
      rw [decide_eq_decide]
      omega
    · have := H.n
      rw [setEnd_length]
      omega
end

theorem CI.step {keep : Bool → Bool → Bool} {a b : List Rn} {pa pb : Nat} {kept : Bool} {res : List Rn} (H : CI keep a b pa pb kept res) (h0 : keep false false = false) (ha : chk a = 0) (hb : chk b = 0) (hn : ¬ (pa = 2 * a.length ∧ pb = 2 * b.length)) :
    ∃ q pa' pb', q = nxt a b pa pb ∧ pa' = adv a pa q ∧ pb' = adv b pb q ∧ pa + pb < pa' + pb' ∧ pa' ≤ 2 * a.length ∧ pb' ≤ 2 * b.length ∧
      (keep (odd pa') (odd pb') = kept → CI keep a b pa' pb' kept res) ∧
      (keep (odd pa') (odd pb') ≠ kept → kept = false → CI keep a b pa' pb' true (res ++ [⟨q.y, q.x, 0⟩])) ∧
      (keep (odd pa') (odd pb') ≠ kept → kept = true → res ≠ [] ∧ CI keep a b pa' pb' false (setEnd res q.x)) := by
  obtain ⟨C, O, z0, H⟩ := H
  exact H.step h0 ha hb hn
theorem CI.le {keep : Bool → Bool → Bool} {a b : List Rn} {pa pb : Nat} {kept : Bool} {res : List Rn} (H : CI keep a b pa pb kept res) : pa ≤ 2 * a.length ∧ pb ≤ 2 * b.length ∧ res.length ≤ pa + pb := by
  obtain ⟨C, O, z0, H⟩ := H
  exact ⟨H.xa.1, H.xb.1, H.n⟩
theorem CI.done {keep : Bool → Bool → Bool} {a b : List Rn} {pa pb : Nat} {kept : Bool} {res : List Rn} (H : CI keep a b pa pb kept res) (h0 : keep false false = false) (ha : chk a = 0) (hb : chk b = 0) (h1 : pa = 2 * a.length) (h2 : pb = 2 * b.length) : IsOp keep a b res := by
  obtain ⟨C, O, z0, H⟩ := H
  subst h1 h2
  have hO : O = none := by
    have h3 := H.k
    rw [H.kk] at h3
    have e : ∀ n, odd (2 * n) = false := fun n => decide_eq_false (by omega)
    rw [e, e, h0] at h3
    cases O with
    | none => rfl
    | some s => cases h3
  subst hO
  have hr : res = C := by have := H.r; simpa [opn] using this
  subst hr
  refine ⟨H.v, fun x y => ?_⟩
  have over : ∀ {ss : List Rn} {z : Int}, Pos ss (2 * ss.length) z0 → z0 ≤ z → inn ss z = false := fun {ss z} hp hz => by
    cases e : inn ss z
    · rfl
    · obtain ⟨r, hr, k1, k2⟩ := inn_iff.1 e
      obtain ⟨j, hj, rfl⟩ := List.getElem_of_mem hr
      have := (hp.2 (2 * j + 1) (by omega)).1 (by omega)
      unfold ek at this
      rw [edge_odd (List.getElem?_eq_getElem hj)] at this
      simp only at this
      omega
  have sem : ∀ z, inn res z = keep (inn a z) (inn b z) := fun z => by
    rcases Int.lt_or_le z z0 with h | h
    · have := H.s z h
      simpa [opnIn] using this
    · rw [over H.xa h, over H.xb h, h0]
      cases e : inn res z
      · rfl
      · obtain ⟨r, hr, k1, k2⟩ := inn_iff.1 e
        have := H.e r hr
        omega
  rw [has_inn (chk_all H.v).1, has_inn (chk_all ha).1, has_inn (chk_all hb).1, sem]
  cases decide (-8192 ≤ x ∧ x < 8192)
  · exact h0.symm
  · rfl

end Go.Proofs.Ytijkoaggcmgjiaa
