/- The rows of fill.Fill and of the reference: lists and numbers alone. -/
import Derived.Test.YtijkoaggcmgjiaaOws
import Derived.Test.YtijkoaggcmgjiaaOps
import Derived.Test.YtijkoaggcmgjiaaPsl
import Derived.Test.YtijkoaggcmgjiaaCombR
namespace Go.Proofs.Ytijkoaggcmgjiaa
open Go
set_option linter.unusedVariables false

/-- Whether cells with the winding number are filled. -/
def isF (odd : Bool) (n : Int) : Bool := if odd then n.tmod 2 != 0 else n != 0
theorem isF_zero (odd : Bool) : isF odd 0 = false := by cases odd <;> rfl
/-- The step behind goes on at the same cell. -/
def goesOn (s : Stp) : List Stp → Bool
  | [] => false
  | q :: _ => q.x == s.x
/-- What the steps that are left make of the runs. -/
def rowGo (odd : Bool) (y : Int) : Bool → Int → List Rn → List Stp → List Rn
  | _, _, acc, [] => acc
  | ins, w, acc, s :: t =>
    if goesOn s t || (isF odd (w + s.d) == ins) then rowGo odd y ins (w + s.d) acc t
    else if ins then rowGo odd y false (w + s.d) (setEnd acc s.x) t
    else rowGo odd y true (w + s.d) (acc ++ [⟨y, s.x, 0⟩]) t
def sumTo (x : Int) (qs : List Stp) : Int := sumI (qs.map fun s => if s.x ≤ x then s.d else 0)
def sumAll (qs : List Stp) : Int := sumI (qs.map fun s => s.d)
theorem sumTo_cons (x : Int) (s : Stp) (t : List Stp) : sumTo x (s :: t) = (if s.x ≤ x then s.d else 0) + sumTo x t := rfl
theorem sumAll_cons (s : Stp) (t : List Stp) : sumAll (s :: t) = s.d + sumAll t := rfl
theorem sumTo_far {x : Int} : ∀ {qs : List Stp}, (∀ s ∈ qs, x < s.x) → sumTo x qs = 0
  | [], _ => rfl
  | s :: t, h => by
    rw [sumTo_cons, if_neg (by have := h s (by simp); omega), sumTo_far fun q hq => h q (List.mem_cons_of_mem _ hq)]
    rfl
def hdX : List Stp → Int
  | [] => -8192
  | s :: _ => s.x
/-- Runs of the row y from lo on, each behind the one before. -/
def RowOk (y lo : Int) : List Rn → Prop
  | [] => True
  | r :: t => r.y = y ∧ lo ≤ r.a ∧ r.a < r.b ∧ r.b ≤ 8192 ∧ RowOk y (r.b + 1) t
theorem RowOk.mono {y lo lo' : Int} : ∀ {rs : List Rn}, RowOk y lo rs → lo' ≤ lo → RowOk y lo' rs
  | [], _, _ => trivial
  | r :: t, h, k => ⟨h.1, by have := h.2.1; omega, h.2.2⟩
theorem RowOk.far {y lo x : Int} : ∀ {rs : List Rn}, RowOk y lo rs → x < lo → has rs x y = false
  | [], _, _ => rfl
  | r :: t, h, k => by
    obtain ⟨h1, h2, h3, h4, h5⟩ := h
    rw [has_cons, h5.far (by omega)]
    unfold hasR
    simp; omega
theorem hd_le {s : Stp} {t : List Stp} (h : List.Pairwise (fun p q => p.x ≤ q.x) (s :: t)) : ∀ q ∈ t, s.x ≤ q.x := (List.pairwise_cons.1 h).1

theorem rowGo_spec (odd : Bool) (y : Int) : ∀ (qs : List Stp) (ins : Bool) (w : Int) (acc : List Rn), List.Pairwise (fun p q => p.x ≤ q.x) qs → (∀ s ∈ qs, -8192 ≤ s.x ∧ s.x ≤ 8192) → isF odd (w + sumAll qs) = false → (qs = [] → ins = false) →
    (ins = false → ∃ rs, rowGo odd y ins w acc qs = acc ++ rs ∧ RowOk y (hdX qs) rs ∧ ∀ x, hdX qs ≤ x → has rs x y = isF odd (w + sumTo x qs)) ∧
    (ins = true → ∀ (acc0 : List Rn) (r : Rn), acc = acc0 ++ [r] → ∃ b rs, rowGo odd y ins w acc qs = acc0 ++ ⟨r.y, r.a, b⟩ :: rs ∧ hdX qs ≤ b ∧ b ≤ 8192 ∧ RowOk y (b + 1) rs ∧ ∀ x, hdX qs ≤ x → (decide (x < b) || has rs x y) = isF odd (w + sumTo x qs))
  | [], ins, w, acc, _, _, hz, hi => by
    have := hi rfl
    subst this
    refine ⟨fun _ => ⟨[], by simp [rowGo], trivial, fun x _ => ?_⟩, fun h => (by cases h)⟩
    rw [show sumTo x [] = 0 from rfl]
    rw [show sumAll [] = 0 from rfl] at hz
    rw [hz]; rfl
  | s :: t, ins, w, acc, hp, hr, hz, _ => by
    have hle := hd_le hp
    have hpt := (List.pairwise_cons.1 hp).2
    have hrt : ∀ q ∈ t, -8192 ≤ q.x ∧ q.x ≤ 8192 := fun q hq => hr q (List.mem_cons_of_mem _ hq)
    have hsx := hr s (by simp)
    rw [sumAll_cons, ← Int.add_assoc] at hz
    have hF : ∀ x, s.x ≤ x → w + sumTo x (s :: t) = w + s.d + sumTo x t := fun x hx => by rw [sumTo_cons, if_pos hx, Int.add_assoc]
    by_cases hg : goesOn s t = true
    · -- the group goes on
      have hne : t ≠ [] := by rintro rfl; cases hg
      have hh : hdX t = s.x := by
        cases t with
        | nil => cases hg
        | cons q t' =>
          have : q.x = s.x := by simpa [goesOn] using hg
          exact this
      have IH := rowGo_spec odd y t ins (w + s.d) acc hpt hrt hz (fun h => absurd h hne)
      have e : rowGo odd y ins w acc (s :: t) = rowGo odd y ins (w + s.d) acc t := by rw [rowGo, hg]; rfl
      rw [e]
      refine ⟨fun h => ?_, fun h acc0 r hacc => ?_⟩
      · obtain ⟨rs, h1, h2, h3⟩ := IH.1 h
        exact ⟨rs, h1, by rw [hh] at h2; exact h2, fun x hx => by rw [hF x hx]; exact h3 x (by rw [hh]; exact hx)⟩
      · obtain ⟨b, rs, h1, h2, h3, h4, h5⟩ := IH.2 h acc0 r hacc
        exact ⟨b, rs, h1, by rw [hh] at h2; exact h2, h3, h4, fun x hx => by rw [hF x hx]; exact h5 x (by rw [hh]; exact hx)⟩
    · have hg' : goesOn s t = false := by simpa using hg
      -- the next group begins behind
      have hlt : ∀ q ∈ t, s.x < q.x := by
        cases t with
        | nil => intro q hq; cases hq
        | cons q t' =>
          have h1 : q.x ≠ s.x := by simpa [goesOn] using hg'
          have h2 := hle q (by simp)
          intro q' hq'
          rcases List.mem_cons.1 hq' with rfl | hq'
          · omega
          · have := hd_le hpt q' hq'
            omega
      have hfar : ∀ x, s.x ≤ x → x < hdX t → t ≠ [] → w + sumTo x (s :: t) = w + s.d := fun x hx hxt hne => by
        rw [hF x hx, sumTo_far (fun q hq => ?_), Int.add_zero]
        cases t with
        | nil => cases hq
        | cons q0 t' =>
          rcases List.mem_cons.1 hq with rfl | hq
          · exact hxt
          · have := hd_le hpt q hq
            have : x < q0.x := hxt
            omega
      have hnil : t = [] → isF odd (w + s.d) = false := fun h => by
        subst h
        rw [show sumAll [] = 0 from rfl, Int.add_zero] at hz
        exact hz
      have hhd : t ≠ [] → s.x < hdX t ∧ hdX t ≤ 8192 := fun hne => by
        cases t with
        | nil => exact absurd rfl hne
        | cons q t' => exact ⟨hlt q (by simp), (hrt q (by simp)).2⟩
      by_cases hk : isF odd (w + s.d) = ins
      · -- nothing changes
        have IH := rowGo_spec odd y t ins (w + s.d) acc hpt hrt hz (fun h => hk.symm.trans (hnil h))
        have e : rowGo odd y ins w acc (s :: t) = rowGo odd y ins (w + s.d) acc t := by rw [rowGo, if_pos (by rw [hk]; simp)]
        rw [e]
        refine ⟨fun h => ?_, fun h acc0 r hacc => ?_⟩
        · obtain ⟨rs, h1, h2, h3⟩ := IH.1 h
          by_cases hne : t = []
          · subst hne
            obtain rfl : rs = [] := by
              have h1' : acc = acc ++ rs := by simpa [rowGo] using h1
              simpa using h1'.symm
            refine ⟨[], h1, trivial, fun x hx => ?_⟩
            rw [hF x hx, show sumTo x [] = 0 from rfl, Int.add_zero, hk, h]; rfl
          · have hd := hhd hne
            refine ⟨rs, h1, h2.mono (by show s.x ≤ _; omega), fun x hx => ?_⟩
            by_cases hxt : hdX t ≤ x
            · rw [hF x hx]; exact h3 x hxt
            · rw [hfar x hx (by omega) hne, hk, h]
              exact h2.far (by omega)
        · obtain ⟨b, rs, h1, h2, h3, h4, h5⟩ := IH.2 h acc0 r hacc
          have hne : t ≠ [] := fun h0 => by have := hnil h0; rw [hk, h] at this; cases this
          have hd := hhd hne
          refine ⟨b, rs, h1, by show s.x ≤ b; omega, h3, h4, fun x hx => ?_⟩
          by_cases hxt : hdX t ≤ x
          · rw [hF x hx]; exact h5 x hxt
          · rw [hfar x hx (by omega) hne, hk, h]
            have : x < b := by omega
            simp [this]
      · cases ins with
        | false =>
          have hk1 : isF odd (w + s.d) = true := by simpa using hk
          have hne : t ≠ [] := fun h0 => by have := hnil h0; rw [hk1] at this; cases this
          have hd := hhd hne
          have e : rowGo odd y false w acc (s :: t) = rowGo odd y true (w + s.d) (acc ++ [⟨y, s.x, 0⟩]) t := by rw [rowGo, if_neg (by rw [hg', hk1]; simp), if_neg (by simp)]
          have IH := rowGo_spec odd y t true (w + s.d) (acc ++ [⟨y, s.x, 0⟩]) hpt hrt hz (fun h => absurd h hne)
          refine ⟨fun _ => ?_, fun h => (by cases h)⟩
          obtain ⟨b, rs, h1, h2, h3, h4, h5⟩ := IH.2 rfl acc ⟨y, s.x, 0⟩ rfl
          refine ⟨⟨y, s.x, b⟩ :: rs, by rw [e, h1], ⟨rfl, Int.le_refl _, by show s.x < b; omega, h3, h4⟩, fun x hx => ?_⟩
          have hx' : s.x ≤ x := hx
          rw [has_cons]
          have e2 : hasR ⟨y, s.x, b⟩ x y = decide (x < b) := by unfold hasR; simp [hx']
          rw [e2]
          by_cases hxt : hdX t ≤ x
          · rw [hF x hx]; exact h5 x hxt
          · rw [hfar x hx (by omega) hne, hk1]
            have : x < b := by omega
            simp [this]
        | true =>
          have hk1 : isF odd (w + s.d) = false := by simpa using hk
          refine ⟨fun h => (by cases h), fun _ acc0 r hacc => ?_⟩
          subst hacc
          have e : rowGo odd y true w (acc0 ++ [r]) (s :: t) = rowGo odd y false (w + s.d) (acc0 ++ [⟨r.y, r.a, s.x⟩]) t := by rw [rowGo, if_neg (by rw [hg', hk1]; simp), if_pos rfl, setEnd_snoc]
          have IH := rowGo_spec odd y t false (w + s.d) (acc0 ++ [⟨r.y, r.a, s.x⟩]) hpt hrt hz (fun _ => rfl)
          obtain ⟨rs, h1, h2, h3⟩ := IH.1 rfl
          by_cases hne : t = []
          · subst hne
            obtain rfl : rs = [] := by
              have h1' : acc0 ++ [⟨r.y, r.a, s.x⟩] = acc0 ++ [⟨r.y, r.a, s.x⟩] ++ rs := by simpa [rowGo] using h1
              simpa using h1'.symm
            refine ⟨s.x, [], by rw [e, h1]; simp, Int.le_refl _, hsx.2, trivial, fun x hx => ?_⟩
            have hx' : s.x ≤ x := hx
            rw [hF x hx, show sumTo x [] = 0 from rfl, Int.add_zero, hk1]
            have : ¬ x < s.x := by omega
            simp [this, has]
          · have hd := hhd hne
            refine ⟨s.x, rs, by rw [e, h1]; simp, Int.le_refl _, hsx.2, h2.mono (by omega), fun x hx => ?_⟩
            have hx' : s.x ≤ x := hx
            have hn : ¬ x < s.x := by omega
            by_cases hxt : hdX t ≤ x
            · rw [hF x hx, ← h3 x hxt]; simp [hn]
            · rw [hfar x hx (by omega) hne, hk1, h2.far (by omega)]; simp [hn]

/-- The runs of a whole row. -/
theorem row_whole (odd : Bool) (y : Int) (qs : List Stp) (acc : List Rn) (hp : List.Pairwise (fun p q => p.x ≤ q.x) qs) (hr : ∀ s ∈ qs, -8192 ≤ s.x ∧ s.x ≤ 8192) (hz : sumAll qs = 0) :
    ∃ rs, rowGo odd y false 0 acc qs = acc ++ rs ∧ RowOk y (-8192) rs ∧ ∀ x, -8192 ≤ x → has rs x y = isF odd (sumTo x qs) := by
  obtain ⟨rs, h1, h2, h3⟩ := (rowGo_spec odd y qs false 0 acc hp hr (by rw [hz]; exact isF_zero odd) (fun _ => rfl)).1 rfl
  have hlo : -8192 ≤ hdX qs := by
    cases qs with
    | nil => exact Int.le_refl _
    | cons s t => exact (hr s (by simp)).1
  refine ⟨rs, h1, h2.mono hlo, fun x hx => ?_⟩
  by_cases hxt : hdX qs ≤ x
  · rw [h3 x hxt, Int.zero_add]
  · rw [h2.far (by omega), sumTo_far (fun s hs => ?_), isF_zero]
    cases qs with
    | nil => cases hs
    | cons q t =>
      have h4 : x < q.x := by have : ¬ q.x ≤ x := hxt; omega
      rcases List.mem_cons.1 hs with rfl | hs
      · exact h4
      · have := hd_le hp s hs; omega
theorem has_append (a b : List Rn) (x y : Int) : has (a ++ b) x y = (has a x y || has b x y) := by unfold has; rw [List.any_append]
theorem RowOk.all {y lo : Int} : ∀ {rs : List Rn}, RowOk y lo rs → ∀ r ∈ rs, r.y = y
  | [], _, r, hr => by cases hr
  | q :: t, h, r, hr => by
    rcases List.mem_cons.1 hr with rfl | hr
    · exact h.1
    · exact h.2.2.2.2.all r hr
theorem RowOk.elsewhere {y lo x y' : Int} {rs : List Rn} (h : RowOk y lo rs) (hy : y' ≠ y) : has rs x y' = false := by
  cases hh : has rs x y' with
  | false => rfl
  | true =>
    obtain ⟨r, hr, h1, -⟩ := has_iff.1 hh
    exact absurd (h1.symm.trans (h.all r hr)) hy
/-- A row behind valid runs of rows above it. -/
theorem chk_row {y : Int} (hy : -8192 ≤ y ∧ y ≤ 8191) : ∀ {rs acc : List Rn} {lo : Int}, chk acc = 0 → (∀ r ∈ acc, r.y < y ∨ r.y = y ∧ r.b < lo) → -8192 ≤ lo → RowOk y lo rs → chk (acc ++ rs) = 0
  | [], acc, lo, h, _, _, _ => by rw [List.append_nil]; exact h
  | r :: t, acc, lo, h, hb, hl, hr => by
    obtain ⟨h1, h2, h3, h4, h5⟩ := hr
    have hs : chk (acc ++ [r]) = 0 := by
      refine chkAll_snoc.2 ⟨h, ⟨⟨by rw [h1]; exact hy, ⟨by omega, by omega⟩, by omega, by omega⟩, h3⟩, ?_⟩
      cases hg : acc.getLast? with
      | none => trivial
      | some l =>
        have := hb l (List.mem_of_getLast? hg)
        show l.y < r.y ∨ r.y = l.y ∧ l.b < r.a
        omega
    have := chk_row hy (rs := t) (acc := acc ++ [r]) (lo := r.b + 1) hs (fun q hq => by
      rcases List.mem_append.1 hq with hq | hq
      · have := hb q hq; omega
      · obtain rfl : q = r := by simpa using hq
        right; exact ⟨h1, by omega⟩) (by omega) h5
    simpa using this
end Go.Proofs.Ytijkoaggcmgjiaa
namespace Go.Proofs.Ytijkoaggcmgjiaa
open Go
set_option linter.unusedVariables false

/-- The step of a slope in a row. -/
def stp (y : Int) (s : Sl) : Stp := ⟨max (-8192) (min (s.cell y) 8192), s.d⟩
theorem sumI_perm {l m : List Int} (h : l.Perm m) : sumI l = sumI m := by
  induction h with
  | nil => rfl
  | cons x _ ih => rw [sumI_cons, sumI_cons, ih]
  | swap x y l => simp only [sumI_cons]; omega
  | trans _ _ h1 h2 => exact h1.trans h2
theorem sumI_filter {α : Type} (p : α → Bool) (f : α → Int) : ∀ l : List α, sumI ((l.filter p).map f) = sumI (l.map fun s => if p s then f s else 0)
  | [] => rfl
  | x :: t => by
    by_cases h : p x
    · rw [List.filter_cons_of_pos h, List.map_cons, List.map_cons, sumI_cons, sumI_cons, sumI_filter p f t, if_pos h]
    · rw [List.filter_cons_of_neg h, List.map_cons, sumI_cons, sumI_filter p f t, if_neg h]; omega
theorem hit_per {s : Sl} {y : Int} (hy : -8192 ≤ y ∧ y ≤ 8191) (h : s.hit y = true) : perS s = true := by
  unfold Sl.hit at h
  unfold perS
  simp at h ⊢
  omega
theorem clip_le {c x : Int} (hx : -8192 ≤ x ∧ x ≤ 8191) : max (-8192) (min c 8192) ≤ x ↔ c ≤ x := by omega
/-- The slopes that cross a row. -/
def hits (es : List Ed) (y : Int) : List Sl := (perL es).filter fun s => s.hit y
theorem hits_sum (es : List Ed) (y : Int) (hy : -8192 ≤ y ∧ y ≤ 8191) (f : Sl → Int) : sumI ((hits es y).map f) = sumI (es.map fun e => if (slp e.1 e.2).hit y then f (slp e.1 e.2) else 0) := by
  unfold hits perL
  rw [sumI_filter, sumI_filter, List.map_map]
  refine sumI_congr fun e _ => ?_
  show (if perS (slp e.1 e.2) then (if (slp e.1 e.2).hit y = true then f (slp e.1 e.2) else 0) else 0) = _
  by_cases h : (slp e.1 e.2).hit y = true
  · rw [if_pos (hit_per hy h)]
  · rw [if_neg h]; simp
theorem rowSums {ls : List Ln} {y : Int} (hy : -8192 ≤ y ∧ y ≤ 8191) {xs : List Sl} (hx : xs.Perm (hits (edgesL ls) y)) {qs : List Stp} (hq : qs.Perm (xs.map (stp y))) :
    sumAll qs = 0 ∧ ∀ x, -8192 ≤ x ∧ x ≤ 8191 → sumTo x qs = wind ls x y := by
  have hp : qs.Perm ((hits (edgesL ls) y).map (stp y)) := hq.trans (hx.map _)
  refine ⟨?_, fun x hx => ?_⟩
  · unfold sumAll
    rw [sumI_perm (hp.map _), List.map_map]
    exact (hits_sum (edgesL ls) y hy fun s => s.d).trans (turns_zero ls y)
  · unfold sumTo
    rw [sumI_perm (hp.map _), List.map_map]
    refine (hits_sum (edgesL ls) y hy fun s => if max (-8192) (min (s.cell y) 8192) ≤ x then s.d else 0).trans ?_
    unfold wind
    refine sumI_congr fun e _ => ?_
    unfold edW Sl.w
    by_cases h : (slp e.1 e.2).hit y = true
    · rw [if_pos h, h]
      by_cases hc : (slp e.1 e.2).cell y ≤ x
      · rw [if_pos ((clip_le hx).2 hc)]; simp [hc]
      · rw [if_neg (fun k => hc ((clip_le hx).1 k))]; simp [hc]
    · rw [if_neg h]; simp [h]
theorem stp_in (y : Int) (s : Sl) : -8192 ≤ (stp y s).x ∧ (stp y s).x ≤ 8192 := by
  show -8192 ≤ max (-8192) (min (s.cell y) 8192) ∧ max (-8192) (min (s.cell y) 8192) ≤ 8192
  omega

/-- What is filled up to a row: valid runs of rows above it, with the cells that the rule selects. -/
structure UpTo (odd : Bool) (ls : List Ln) (y : Int) (rs : List Rn) : Prop where
  ok : chk rs = 0
  up : ∀ r ∈ rs, r.y < y
  h : ∀ x y', y' < y → has rs x y' = (decide (-8192 ≤ x ∧ x ≤ 8191 ∧ -8192 ≤ y' ∧ y' ≤ 8191) && isF odd (wind ls x y'))
theorem UpTo.above {odd : Bool} {ls : List Ln} {y x y' : Int} {rs : List Rn} (h : UpTo odd ls y rs) (hy : y ≤ y') : has rs x y' = false := by
  cases hh : has rs x y' with
  | false => rfl
  | true =>
    obtain ⟨r, hr, h1, -⟩ := has_iff.1 hh
    have := h.up r hr
    omega
theorem UpTo.start (odd : Bool) (ls : List Ln) : UpTo odd ls (-8192) [] :=
  ⟨rfl, fun r hr => (by cases hr), fun x y' hy => by
    have : ¬ (-8192 ≤ x ∧ x ≤ 8191 ∧ -8192 ≤ y' ∧ y' ≤ 8191) := by omega
    simp [this, has]⟩
/-- One row more. -/
theorem UpTo.row {odd : Bool} {ls : List Ln} {y : Int} {acc : List Rn} (h : UpTo odd ls y acc) (hy : -8192 ≤ y ∧ y ≤ 8191) {xs : List Sl} (hx : xs.Perm (hits (edgesL ls) y)) {qs : List Stp} (hq : qs.Perm (xs.map (stp y)))
    (hp : List.Pairwise (fun p q => p.x ≤ q.x) qs) : UpTo odd ls (y + 1) (rowGo odd y false 0 acc qs) := by
  obtain ⟨hz, hs⟩ := rowSums hy hx hq
  have hr : ∀ s ∈ qs, -8192 ≤ s.x ∧ s.x ≤ 8192 := fun s h1 => by
    obtain ⟨t, -, rfl⟩ := List.mem_map.1 (hq.mem_iff.1 h1)
    exact stp_in y t
  obtain ⟨rs, e, hk, hf⟩ := row_whole odd y qs acc hp hr hz
  rw [e]
  refine ⟨chk_row hy h.ok (fun r hr => .inl (h.up r hr)) (Int.le_refl _) hk, fun r hr => ?_, fun x y' hy' => ?_⟩
  · rcases List.mem_append.1 hr with hr | hr
    · have := h.up r hr; omega
    · have := hk.all r hr; omega
  · rw [has_append]
    by_cases hyy : y' = y
    · subst hyy
      rw [h.above (Int.le_refl _), Bool.false_or]
      by_cases hx1 : -8192 ≤ x
      · rw [hf x hx1]
        by_cases hx2 : x ≤ 8191
        · rw [hs x ⟨hx1, hx2⟩]; simp [hx1, hx2, hy.1, hy.2]
        · have : sumTo x qs = sumAll qs := by
            unfold sumTo sumAll
            exact sumI_congr fun s hs' => if_pos (by have := hr s hs'; omega)
          rw [this, hz, isF_zero]
          have : ¬ (-8192 ≤ x ∧ x ≤ 8191 ∧ -8192 ≤ y' ∧ y' ≤ 8191) := by omega
          simp [this]
      · rw [hk.far (by omega)]
        have : ¬ (-8192 ≤ x ∧ x ≤ 8191 ∧ -8192 ≤ y' ∧ y' ≤ 8191) := by omega
        simp [this]
    · rw [hk.elsewhere hyy, Bool.or_false]
      exact h.h x y' (by omega)
theorem wind_none {ls : List Ln} {y : Int} (hy : -8192 ≤ y ∧ y ≤ 8191) (h : hits (edgesL ls) y = []) (x : Int) : wind ls x y = 0 := by
  unfold wind
  have e := hits_sum (edgesL ls) y hy fun s => if s.cell y ≤ x then s.d else 0
  rw [h] at e
  refine Eq.trans (sumI_congr fun e _ => ?_) e.symm
  unfold edW Sl.w
  by_cases h : (slp e.1 e.2).hit y = true
  · by_cases hc : (slp e.1 e.2).cell y ≤ x <;> simp [h, hc]
  · simp [h]
/-- Rows that no slope crosses. -/
theorem UpTo.skip {odd : Bool} {ls : List Ln} {y y2 : Int} {acc : List Rn} (h : UpTo odd ls y acc) (hy : -8192 ≤ y) (hy2 : y ≤ y2) (hn : ∀ y', y ≤ y' → y' < y2 → y' ≤ 8191 → hits (edgesL ls) y' = []) : UpTo odd ls y2 acc :=
  ⟨h.ok, fun r hr => by have := h.up r hr; omega, fun x y' hy' => by
    by_cases k : y' < y
    · exact h.h x y' k
    · rw [h.above (by omega)]
      by_cases k2 : y' ≤ 8191
      · rw [wind_none ⟨by omega, k2⟩ (hn y' (by omega) hy' k2), isF_zero, Bool.and_false]
      · have : ¬ (-8192 ≤ x ∧ x ≤ 8191 ∧ -8192 ≤ y' ∧ y' ≤ 8191) := by omega
        simp [this]⟩
/-- The region that fill.Fill returns. -/
def Filled (odd : Bool) (ls : List Ln) (rs : List Rn) : Prop := chk rs = 0 ∧ ∀ x y, has rs x y = (decide (-8192 ≤ x ∧ x ≤ 8191 ∧ -8192 ≤ y ∧ y ≤ 8191) && isF odd (wind ls x y))
theorem UpTo.whole {odd : Bool} {ls : List Ln} {y : Int} {rs : List Rn} (h : UpTo odd ls y rs) (hy : 8192 ≤ y) : Filled odd ls rs :=
  ⟨h.ok, fun x y' => by
    by_cases k : y' < y
    · exact h.h x y' k
    · rw [h.above (by omega)]
      have : ¬ (-8192 ≤ x ∧ x ≤ 8191 ∧ -8192 ≤ y' ∧ y' ≤ 8191) := by omega
      simp [this]⟩
theorem Filled.uniq {odd : Bool} {ls : List Ln} {rs qs : List Rn} (h : Filled odd ls rs) (k : Filled odd ls qs) : rs = qs := has_inj h.1 k.1 fun x y => (h.2 x y).trans (k.2 x y).symm

/-! ### the active slopes -/
/-- W: the slopes in the order of their tops; k of them taken; at the beginning of the round of row y. -/
structure Actv (W act : List Sl) (k : Nat) (y : Int) : Prop where
  e : act = (W.take k).filter fun s => decide (y ≤ s.b.y)
  lt : ∀ s ∈ W.take k, s.t.y < y
  ge : ∀ s ∈ W.drop k, y ≤ s.t.y ∨ y = -8192
theorem Actv.start (W : List Sl) : Actv W [] 0 (-8192) := ⟨rfl, fun s hs => (by cases hs), fun s _ => .inr rfl⟩
/-- While slopes are taken up to the row y. -/
structure Ref (W act : List Sl) (k : Nat) (y : Int) : Prop where
  e : act = (W.take k).filter fun s => decide (y < s.b.y)
  le : ∀ s ∈ W.take k, s.t.y ≤ y
  g : ∀ s ∈ W.drop k, s.t.y ≤ y → y < s.b.y
section
variable {W act : List Sl} {k : Nat} {y : Int}
def delS (y : Int) (act : List Sl) : List Sl := act.filter fun s => !decide (s.b.y ≤ y)
theorem Actv.del (h : Actv W act k y) : delS y act = (W.take k).filter fun s => decide (y < s.b.y) := by
  unfold delS
  rw [h.e, List.filter_filter]
  refine List.filter_congr fun s _ => ?_
  by_cases h1 : y < s.b.y
  · have h2 : y ≤ s.b.y := by omega
    have h3 : ¬ s.b.y ≤ y := by omega
    simp [h1, h2, h3]
  · have h3 : s.b.y ≤ y := by omega
    simp [h1, h3]
theorem perS_is {s : Sl} (h : perS s = true) : s.t.y < s.b.y ∧ -8192 < s.b.y ∧ s.t.y < 8192 := by unfold perS at h; simpa using h
theorem Actv.ref (h : Actv W act k y) (hp : ∀ s ∈ W, perS s = true) : Ref W (delS y act) k y :=
  ⟨h.del, fun s hs => by have := h.lt s hs; omega, fun s hs ht => by
    have h1 := perS_is (hp s (List.mem_of_mem_drop hs))
    have h2 := h.ge s hs
    omega⟩
theorem sort_drop (hs : List.Pairwise (fun p q : Sl => p.t.y ≤ q.t.y) W) {k : Nat} (hk : k < W.length) : ∀ s ∈ W.drop k, W[k].t.y ≤ s.t.y := fun s h => by
  have h1 := hs.drop (i := k)
  rw [List.drop_eq_getElem_cons hk] at h h1
  rcases List.mem_cons.1 h with rfl | h
  · exact Int.le_refl _
  · exact (List.pairwise_cons.1 h1).1 s h
theorem Actv.gone (h : Actv W act k y) (he : delS y act = []) : ∀ s ∈ W.take k, s.b.y ≤ y := fun s hs => by
  have h1 := List.filter_eq_nil_iff.1 (h.del.symm.trans he) s hs
  simpa using h1
theorem Actv.jump (h : Actv W act k y) (hp : ∀ s ∈ W, perS s = true) (hs : List.Pairwise (fun p q : Sl => p.t.y ≤ q.t.y) W) (hy : y ≤ 8191) (he : delS y act = []) (hk : k < W.length) :
    Ref W [] k (max y W[k].t.y) ∧ max y W[k].t.y ≤ 8191 ∧ ∀ y', y ≤ y' → y' < max y W[k].t.y → W.filter (fun s => s.hit y') = [] := by
  have hb := h.gone he
  have hd := sort_drop hs hk
  have hper := perS_is (hp _ (List.getElem_mem hk))
  generalize W[k].t.y = t0 at hd hper
  refine ⟨⟨?_, fun s h1 => by have := h.lt s h1; omega, fun s h1 h2 => ?_⟩, by omega, fun y' h1 h2 => ?_⟩
  · refine (List.filter_eq_nil_iff.2 fun s h1 => ?_).symm
    have := hb s h1
    simp; omega
  · have h3 := perS_is (hp s (List.mem_of_mem_drop h1))
    have h4 := h.ge s h1
    have h5 := hd s h1
    omega
  · refine List.filter_eq_nil_iff.2 fun s h3 => ?_
    rw [← List.take_append_drop k W] at h3
    unfold Sl.hit
    rcases List.mem_append.1 h3 with h3 | h3
    · have := hb s h3
      simp; omega
    · have := hd s h3
      simp; omega
theorem Actv.over (h : Actv W act k y) (he : delS y act = []) (hk : W.length ≤ k) : ∀ y', y ≤ y' → W.filter (fun s => s.hit y') = [] := fun y' h1 => by
  refine List.filter_eq_nil_iff.2 fun s h3 => ?_
  have := h.gone he s (by rw [List.take_of_length_le hk]; exact h3)
  unfold Sl.hit
  simp; omega
theorem Ref.more (h : Ref W act k y) (hk : k < W.length) (ht : W[k].t.y ≤ y) : Ref W (act ++ [W[k]]) (k + 1) y := by
  have hd := List.drop_eq_getElem_cons hk
  have hb := h.g W[k] (by rw [hd]; exact List.mem_cons_self) ht
  refine ⟨?_, fun s hs => ?_, fun s hs => h.g s (by rw [hd]; exact List.mem_cons_of_mem _ hs)⟩
  · rw [List.take_succ_eq_append_getElem hk, List.filter_append, ← h.e, List.filter_cons_of_pos (by simpa using hb)]
    rfl
  · rw [List.take_succ_eq_append_getElem hk] at hs
    rcases List.mem_append.1 hs with hs | hs
    · exact h.le s hs
    · obtain rfl : s = W[k] := by simpa using hs
      exact ht
theorem Ref.done (h : Ref W act k y) (hd : ∀ s ∈ W.drop k, y < s.t.y) : W.filter (fun s => s.hit y) = act ∧ Actv W act k (y + 1) := by
  refine ⟨?_, ⟨?_, fun s hs => by have := h.le s hs; omega, fun s hs => .inl (by have := hd s hs; omega)⟩⟩
  · have e1 : (W.drop k).filter (fun s => s.hit y) = [] := List.filter_eq_nil_iff.2 fun s hs => by
      have := hd s hs
      unfold Sl.hit
      simp; omega
    have e2 : (W.take k).filter (fun s => s.hit y) = act := by
      rw [h.e]
      refine List.filter_congr fun s hs => ?_
      have := h.le s hs
      unfold Sl.hit
      simp [this]
    have := List.filter_append (p := fun s : Sl => s.hit y) (W.take k) (W.drop k)
    rw [List.take_append_drop, e1, e2, List.append_nil] at this
    exact this
  · rw [h.e]
    refine List.filter_congr fun s _ => ?_
    by_cases h1 : y < s.b.y
    · have h2 : y + 1 ≤ s.b.y := by omega
      simp [h1, h2]
    · have h2 : ¬ y + 1 ≤ s.b.y := by omega
      simp [h1, h2]
theorem Ref.left (hs : List.Pairwise (fun p q : Sl => p.t.y ≤ q.t.y) W) (hk : W.length ≤ k ∨ ∃ h : k < W.length, y < W[k].t.y) : ∀ s ∈ W.drop k, y < s.t.y := fun s h1 => by
  rcases hk with hk | ⟨hk, ht⟩
  · rw [List.drop_eq_nil_of_le hk] at h1; cases h1
  · have := sort_drop hs hk s h1; omega
end
theorem hits_perm {es : List Ed} {W : List Sl} (h : W.Perm (perL es)) (y : Int) : (W.filter fun s => s.hit y).Perm (hits es y) := h.filter _
theorem hits_nil {es : List Ed} {W : List Sl} (h : W.Perm (perL es)) {y : Int} (hn : W.filter (fun s => s.hit y) = []) : hits es y = [] := by
  have := hits_perm h y
  rw [hn] at this
  exact List.Perm.eq_nil this.symm
end Go.Proofs.Ytijkoaggcmgjiaa
namespace Go.Proofs.Ytijkoaggcmgjiaa
open Go
set_option linter.unusedVariables false

/-- The borders in a row, k of them walked. -/
structure JI (K : Int → Bool) (y : Int) (bs : List Int) (k : Nat) (out : List Rn) : Prop where
  v : chk out = 0
  e : ∀ r ∈ out, r.y = y ∧ r.b ≤ bs.getD k 0
  s : ∀ x, has out x y = (decide (x < bs.getD k 0) && K x)
  n : out.length ≤ k
structure Flat (K : Int → Bool) (bs : List Int) : Prop where
  s : Sorted bs
  low : ∀ x, x < bs.getD 0 0 → K x = false
  const : ∀ (k : Nat) (h : k + 1 < bs.length) x, bs[k] ≤ x → x < bs[k + 1] → K x = K bs[k]
section
variable {K : Int → Bool} {y : Int} {bs : List Int} {k : Nat} {out : List Rn}
theorem JI.start (hf : Flat K bs) : JI K y bs 0 [] :=
  ⟨rfl, fun r hr => (by cases hr), fun x => by
    by_cases h : x < bs.getD 0 0
    · rw [hf.low x h, Bool.and_false]; rfl
    · rw [decide_eq_false h]; rfl, Nat.le_refl _⟩
theorem JI.skip (H : JI K y bs k out) (hb : Flat K bs) (hk : k + 1 < bs.length) (hn : K bs[k] = false) : JI K y bs (k + 1) out := by
  have h1 := sorted_lt hb.s (by omega) hk (Nat.lt_succ_self k)
  refine ⟨H.v, fun r hr => ?_, fun x => ?_, by have := H.n; omega⟩
  · have := H.e r hr
    rw [getD_at (by omega)] at this
    rw [getD_at hk]
    omega
  · rw [H.s, getD_at (show k < bs.length by omega), getD_at hk]
    by_cases hx : x < bs[k]
    · rw [decide_eq_true hx, decide_eq_true (show x < bs[k + 1] by omega)]
    · rw [decide_eq_false hx, Bool.false_and]
      by_cases hx2 : x < bs[k + 1]
      · rw [hb.const k hk x (by omega) hx2, hn, Bool.and_false]
      · rw [decide_eq_false hx2, Bool.false_and]
theorem JI.join (H : JI K y bs k out) (hb : Flat K bs) (hk : k + 1 < bs.length) (hy : -8192 ≤ y ∧ y ≤ 8191) (hr : ∀ b ∈ bs, -8192 ≤ b ∧ b ≤ 8192) (hn : K bs[k] = true) : JI K y bs (k + 1) (joinR out y bs[k] bs[k + 1]) := by
  have h1 := sorted_lt hb.s (by omega) hk (Nat.lt_succ_self k)
  have r0 := hr _ (List.getElem_mem (show k < bs.length by omega))
  have r1 := hr _ (List.getElem_mem hk)
  have hE := H.e
  rw [getD_at (show k < bs.length by omega)] at hE
  have sem : ∀ x, (decide (x < bs[k + 1]) && K x) = ((decide (x < bs[k]) && K x) || decide (bs[k] ≤ x ∧ x < bs[k + 1])) := fun x => by
    by_cases hx : x < bs[k]
    · rw [decide_eq_true hx, decide_eq_true (show x < bs[k + 1] by omega), decide_eq_false (show ¬ (bs[k] ≤ x ∧ x < bs[k + 1]) by omega), Bool.or_false]
    · rw [decide_eq_false hx, Bool.false_and, Bool.false_or]
      by_cases hx2 : x < bs[k + 1]
      · rw [decide_eq_true hx2, Bool.true_and, hb.const k hk x (by omega) hx2, hn, decide_eq_true (by omega)]
      · rw [decide_eq_false hx2, Bool.false_and, decide_eq_false (by omega)]
  have app : (∀ l, out.getLast? = some l → Bh ⟨y, bs[k], bs[k + 1]⟩ l) → JI K y bs (k + 1) (out ++ [⟨y, bs[k], bs[k + 1]⟩]) := fun hl => by
    refine ⟨chkAll_snoc.2 ⟨H.v, ⟨⟨hy, r0, r1⟩, h1⟩, ?_⟩, fun r hr' => ?_, fun x => ?_, by have := H.n; simp; omega⟩
    · cases e : out.getLast? with
      | none => trivial
      | some l => exact hl l e
    · rw [getD_at hk]
      rcases List.mem_append.1 hr' with hr' | hr'
      · have := hE r hr'; omega
      · rw [List.mem_singleton] at hr'; subst hr'; exact ⟨rfl, Int.le_refl _⟩
    · rw [has_snoc, H.s]
      unfold hasR
      simp only
      rw [getD_at (show k < bs.length by omega), getD_at hk, sem]
      congr 1
      simp
  unfold joinR
  cases e : out.getLast? with
  | none => exact app (fun l hl => by rw [e] at hl; cases hl)
  | some l =>
    simp only
    have hl := List.mem_of_getLast? e
    by_cases hc : l.y = y ∧ l.b = bs[k]
    · rw [if_pos hc]
      obtain ⟨C, hC⟩ : ∃ C, out = C ++ [l] := by
        rcases List.eq_nil_or_concat out with h | ⟨C, l', h⟩
        · rw [h] at e; cases e
        · rw [List.concat_eq_append] at h
          rw [h] at e
          simp at e
          subst e
          exact ⟨C, h⟩
      subst hC
      rw [setEnd_snoc]
      have hv := chkAll_snoc.1 H.v
      have hlo := hv.2.1
      unfold RnOk RnIn at hlo
      refine ⟨chkAll_snoc.2 ⟨hv.1, ⟨⟨hlo.1.1, hlo.1.2.1, r1⟩, by simp only; omega⟩, ?_⟩, fun r hr' => ?_, fun x => ?_, by have := H.n; simp at this ⊢; omega⟩
      · have := hv.2.2
        cases e2 : C.getLast? with
        | none => trivial
        | some l2 => rw [e2] at this; exact this
      · rw [getD_at hk]
        rcases List.mem_append.1 hr' with hr' | hr'
        · have := hE r (List.mem_append_left _ hr'); omega
        · rw [List.mem_singleton] at hr'; subst hr'; exact ⟨hc.1, Int.le_refl _⟩
      · have h0 := H.s x
        rw [has_snoc] at h0
        rw [has_snoc, getD_at hk]
        rw [getD_at (show k < bs.length by omega)] at h0
        rw [sem, ← h0]
        unfold hasR
        simp only
        rw [Bool.or_assoc]
        congr 1
        rw [← Bool.decide_or, decide_eq_decide]
        omega
    · rw [if_neg hc]
      refine app fun l' hl' => ?_
      rw [e] at hl'
      obtain rfl := Option.some.inj hl'
      have := hE l hl
      unfold Bh
      simp only
      omega
end

theorem wind_same {ls : List Ln} {x x' y : Int} (h : ∀ e ∈ edgesL ls, (slp e.1 e.2).hit y = true → ((slp e.1 e.2).cell y ≤ x ↔ (slp e.1 e.2).cell y ≤ x')) : wind ls x y = wind ls x' y := by
  unfold wind
  refine sumI_congr fun e he => ?_
  unfold edW Sl.w
  by_cases h1 : (slp e.1 e.2).hit y = true
  · have := h e he h1
    by_cases h2 : (slp e.1 e.2).cell y ≤ x
    · simp [h1, h2, this.1 h2]
    · have h3 : ¬ (slp e.1 e.2).cell y ≤ x' := fun k => h2 (this.2 k)
      simp [h1, h2, h3]
  · simp [h1]
/-- The clipped crossings of a row, sorted, each once. -/
structure Crs (es : List Ed) (y : Int) (bs : List Int) : Prop where
  s : Sorted bs
  m : ∀ b, b ∈ bs ↔ ∃ e ∈ es, (slp e.1 e.2).hit y = true ∧ b = (stp y (slp e.1 e.2)).x
def rowK (odd : Bool) (ls : List Ln) (y : Int) (x : Int) : Bool := decide (-8192 ≤ x ∧ x ≤ 8191) && isF odd (wind ls x y)
theorem Crs.range {es : List Ed} {y : Int} {bs : List Int} (h : Crs es y bs) : ∀ b ∈ bs, -8192 ≤ b ∧ b ≤ 8192 := fun b hb => by
  obtain ⟨e, -, -, rfl⟩ := (h.m b).1 hb
  exact stp_in y _
theorem wind_lows {ls : List Ln} {x y : Int} (h : ∀ e ∈ edgesL ls, (slp e.1 e.2).hit y = true → x < (slp e.1 e.2).cell y) : wind ls x y = 0 := by
  unfold wind
  refine Eq.trans (sumI_congr fun e he => ?_) (sumI_zero (edgesL ls))
  unfold edW Sl.w
  by_cases h1 : (slp e.1 e.2).hit y = true
  · have : ¬ (slp e.1 e.2).cell y ≤ x := by have := h e he h1; omega
    simp [h1, this]
  · simp [h1]
theorem wind_highs {ls : List Ln} {x y : Int} (h : ∀ e ∈ edgesL ls, (slp e.1 e.2).hit y = true → (slp e.1 e.2).cell y ≤ x) : wind ls x y = 0 := by
  unfold wind
  refine Eq.trans (sumI_congr fun e he => ?_) (turns_zero ls y)
  unfold edW Sl.w
  by_cases h1 : (slp e.1 e.2).hit y = true
  · simp [h1, h e he h1]
  · simp [h1]
theorem sorted_ends {bs : List Int} (h : Sorted bs) {b : Int} (hb : b ∈ bs) : bs.getD 0 0 ≤ b ∧ b ≤ bs.getD (bs.length - 1) 0 := by
  obtain ⟨i, hi, rfl⟩ := List.getElem_of_mem hb
  rw [getD_at (show 0 < bs.length by omega), getD_at (show bs.length - 1 < bs.length by omega)]
  constructor
  · rcases Nat.eq_zero_or_pos i with h0 | h0
    · subst h0; exact Int.le_refl _
    · exact Int.le_of_lt (sorted_lt h (by omega) hi h0)
  · rcases Nat.lt_or_ge i (bs.length - 1) with h0 | h0
    · exact Int.le_of_lt (sorted_lt h hi (by omega) h0)
    · have : i = bs.length - 1 := by omega
      subst this; exact Int.le_refl _
theorem Crs.flat {ls : List Ln} {y : Int} {bs : List Int} (odd : Bool) (h : Crs (edgesL ls) y bs) (hne : bs ≠ []) : Flat (rowK odd ls y) bs := by
  refine ⟨h.s, fun x hx => ?_, fun k hk x h1 h2 => ?_⟩
  · unfold rowK
    by_cases hr : -8192 ≤ x ∧ x ≤ 8191
    · rw [wind_lows, isF_zero, Bool.and_false]
      intro e he hh
      have := (sorted_ends h.s ((h.m _).2 ⟨e, he, hh, rfl⟩)).1
      have e2 : (stp y (slp e.1 e.2)).x = max (-8192) (min ((slp e.1 e.2).cell y) 8192) := rfl
      omega
    · rw [decide_eq_false hr, Bool.false_and]
  · have r0 := h.range _ (List.getElem_mem (show k < bs.length by omega))
    have r1 := h.range _ (List.getElem_mem hk)
    unfold rowK
    rw [decide_eq_true (by omega), decide_eq_true (by omega), wind_same (x' := bs[k])]
    intro e he hh
    have hm : (stp y (slp e.1 e.2)).x ∈ bs := (h.m _).2 ⟨e, he, hh, rfl⟩
    have hg := sorted_gap h.s hk hm
    have e2 : (stp y (slp e.1 e.2)).x = max (-8192) (min ((slp e.1 e.2).cell y) 8192) := rfl
    omega
theorem Crs.high {ls : List Ln} {y x : Int} {bs : List Int} {odd : Bool} (h : Crs (edgesL ls) y bs) (hx : bs.getD (bs.length - 1) 0 ≤ x) (hr : -8192 ≤ x ∧ x ≤ 8191) : rowK odd ls y x = false := by
  unfold rowK
  rw [wind_highs, isF_zero, Bool.and_false]
  intro e he hh
  have := (sorted_ends h.s ((h.m _).2 ⟨e, he, hh, rfl⟩)).2
  have e2 : (stp y (slp e.1 e.2)).x = max (-8192) (min ((slp e.1 e.2).cell y) 8192) := rfl
  omega
/-- A row of the reference: valid runs of the row alone, with the cells that the rule selects. -/
structure RowF (odd : Bool) (ls : List Ln) (y : Int) (rs : List Rn) : Prop where
  v : chk rs = 0
  r : ∀ r ∈ rs, r.y = y
  s : ∀ x, has rs x y = rowK odd ls y x
theorem JI.last {odd : Bool} {ls : List Ln} {y : Int} {bs : List Int} {k : Nat} {out : List Rn} (H : JI (rowK odd ls y) y bs k out) (h : Crs (edgesL ls) y bs) (hk : k + 1 = bs.length) : RowF odd ls y out :=
  ⟨H.v, fun r hr => (H.e r hr).1, fun x => by
    rw [H.s]
    by_cases hx : x < bs.getD k 0
    · rw [decide_eq_true hx, Bool.true_and]
    · rw [decide_eq_false hx, Bool.false_and]
      by_cases hr : -8192 ≤ x ∧ x ≤ 8191
      · rw [h.high (by rw [show bs.length - 1 = k by omega]; omega) hr]
      · unfold rowK; rw [decide_eq_false hr, Bool.false_and]⟩
theorem RowF.none {odd : Bool} {ls : List Ln} {y : Int} (h : Crs (edgesL ls) y []) : RowF odd ls y [] :=
  ⟨rfl, fun r hr => (by cases hr), fun x => by
    unfold rowK
    rw [wind_lows, isF_zero, Bool.and_false]
    · rfl
    · intro e he hh
      have := (h.m _).2 ⟨e, he, hh, rfl⟩
      cases this⟩
/-- One more row of the reference. -/
theorem UpTo.rowF {odd : Bool} {ls : List Ln} {y : Int} {acc rs : List Rn} (h : UpTo odd ls y acc) (hy : -8192 ≤ y ∧ y ≤ 8191) (k : RowF odd ls y rs) : UpTo odd ls (y + 1) (acc ++ rs) := by
  have hok : chk (acc ++ rs) = 0 := by
    have : ∀ (qs : List Rn) (pre : List Rn), chk (pre ++ qs) = chk (pre ++ qs) := fun _ _ => rfl
    have gen : ∀ (qs acc' : List Rn) (p : Option Rn), chk acc' = 0 → chkAll p qs = 0 → (∀ r ∈ qs, r.y = y) → (∀ l, acc'.getLast? = some l → l.y < y ∨ p = some l) → chk (acc' ++ qs) = 0 := by
      intro qs
      induction qs with
      | nil => intro acc' p h1 _ _ _; rw [List.append_nil]; exact h1
      | cons q t ih =>
        intro acc' p h1 h2 h3 h4
        obtain ⟨a1, a2, a3⟩ := chkAll_cons.1 h2
        have e : acc' ++ q :: t = (acc' ++ [q]) ++ t := by simp
        rw [e]
        refine ih (acc' ++ [q]) (some q) (chkAll_snoc.2 ⟨h1, a1, ?_⟩) a3 (fun r hr => h3 r (List.mem_cons_of_mem _ hr)) (fun l hl => .inr ?_)
        · cases hg : acc'.getLast? with
          | none => trivial
          | some l =>
            rcases h4 l hg with h5 | h5
            · exact .inl (by rw [h3 q (by simp)]; exact h5)
            · rw [h5] at a2; exact a2
        · simp at hl; rw [hl]
    exact gen rs acc none h.ok k.v k.r fun l hl => .inl (h.up l (List.mem_of_getLast? hl))
  refine ⟨hok, fun r hr => ?_, fun x y' hy' => ?_⟩
  · rcases List.mem_append.1 hr with hr | hr
    · have := h.up r hr; omega
    · have := k.r r hr; omega
  · rw [has_append]
    by_cases hyy : y' = y
    · subst hyy
      rw [h.above (Int.le_refl _), Bool.false_or, k.s]
      unfold rowK
      congr 1
      rw [decide_eq_decide]
      omega
    · have : has rs x y' = false := by
        cases hh : has rs x y' with
        | false => rfl
        | true =>
          obtain ⟨r, hr, h1, -⟩ := has_iff.1 hh
          exact absurd (h1.symm.trans (k.r r hr)) hyy
      rw [this, Bool.or_false]
      exact h.h x y' (by omega)
end Go.Proofs.Ytijkoaggcmgjiaa
