/- What a widened, a narrowed and a shifted region has; dilation and erosion by cells. Without a program. -/
import Derived.Test.YtldbpabnfjnpbaaShift
import Derived.Test.YtldbpabnfjnpbaaComb
namespace Go.Proofs.Ytldbpabnfjnpbaa
open Go
set_option linter.unusedVariables false

/-- A permitted cell. -/
def Perm (x y : Int) : Prop := (-8192 ≤ x ∧ x ≤ 8191) ∧ (-8192 ≤ y ∧ y ≤ 8191)
instance (x y : Int) : Decidable (Perm x y) := inferInstanceAs (Decidable (_ ∧ _))
theorem rnok_iff {r : Rn} : RnOk r ↔ ((-8192 ≤ r.y ∧ r.y ≤ 8191) ∧ (-8192 ≤ r.a ∧ r.a ≤ 8192) ∧ (-8192 ≤ r.b ∧ r.b ≤ 8192)) ∧ r.a < r.b := Iff.rfl
theorem has_perm {ss : List Rn} (h : chk ss = 0) {x y : Int} (hh : has ss x y = true) : Perm x y := by
  obtain ⟨r, hr, e1, e2, e3⟩ := has_iff.1 hh
  have := rnok_iff.1 ((chk_all h).1 r hr)
  unfold Perm
  omega

/-! ### lists of runs, run by run -/
theorem chk_fm_aux {f : Rn → Option Rn} (h1 : ∀ r s, RnOk r → f r = some s → RnOk s) (h2 : ∀ a b a' b', RnOk a → RnOk b → Bh b a → f a = some a' → f b = some b' → Bh b' a') :
    ∀ (ss : List Rn) (p q : Option Rn), chkAll p ss = 0 → (∀ l', q = some l' → ∀ r ∈ ss, ∀ s, f r = some s → Bh s l') → chkAll q (ss.filterMap f) = 0
  | [], _, _, _, _ => rfl
  | r :: ss, p, q, h, k => by
    obtain ⟨c1, c2, c3⟩ := chkAll_cons.1 h
    cases e : f r with
    | none =>
      rw [List.filterMap_cons_none e]
      exact chk_fm_aux h1 h2 ss (some r) q c3 (fun l' hl r' hr' => k l' hl r' (List.mem_cons_of_mem _ hr'))
    | some s =>
      rw [List.filterMap_cons_some e]
      refine chkAll_cons.2 ⟨h1 r s c1 e, ?_, chk_fm_aux h1 h2 ss (some r) (some s) c3 (fun l' hl r' hr' s' hs' => ?_)⟩
      · cases q with
        | none => trivial
        | some l' => exact k l' rfl r (by simp) s e
      · cases hl
        have := (chkAll_all c3).1 r' hr'
        exact h2 r r' s s' c1 this.1 this.2 e hs'
theorem chk_fm {f : Rn → Option Rn} (h1 : ∀ r s, RnOk r → f r = some s → RnOk s) (h2 : ∀ a b a' b', RnOk a → RnOk b → Bh b a → f a = some a' → f b = some b' → Bh b' a') {ss : List Rn} (h : chk ss = 0) : chk (ss.filterMap f) = 0 :=
  chk_fm_aux h1 h2 ss none none h (fun l' hl => by cases hl)
theorem has_fm {f : Rn → Option Rn} {ss : List Rn} {x y : Int} : has (ss.filterMap f) x y = true ↔ ∃ r ∈ ss, ∃ s, f r = some s ∧ s.y = y ∧ s.a ≤ x ∧ x < s.b := by
  rw [has_iff]
  constructor
  · rintro ⟨s, hs, e⟩
    obtain ⟨r, hr, e2⟩ := List.mem_filterMap.1 hs
    exact ⟨r, hr, s, e2, e⟩
  · rintro ⟨r, hr, s, e2, e⟩
    exact ⟨s, List.mem_filterMap.2 ⟨r, hr, e2⟩, e⟩

/-! ### shifted -/
def shF (dx dy : Int) (r : Rn) : Option Rn := if mvOk dx dy r = true then some (mvRn dx dy r) else none
theorem shiftL_fm (dx dy : Int) : ∀ ss : List Rn, shiftL dx dy ss = ss.filterMap (shF dx dy)
  | [] => rfl
  | r :: ss => by
    have ih := shiftL_fm dx dy ss
    unfold shiftL at ih ⊢
    by_cases h : mvOk dx dy r = true
    · rw [List.filter_cons_of_pos h, List.map_cons, ih, List.filterMap_cons_some (show shF dx dy r = some (mvRn dx dy r) from if_pos h)]
    · rw [List.filter_cons_of_neg h, ih, List.filterMap_cons_none (show shF dx dy r = none from if_neg h)]
theorem shF_some {dx dy : Int} {r s : Rn} (h : shF dx dy r = some s) : ((-8192 ≤ r.y + dy ∧ r.y + dy ≤ 8191) ∧ max (r.a + dx) (-8192) < min (r.b + dx) 8192) ∧ s.y = r.y + dy ∧ s.a = max (r.a + dx) (-8192) ∧ s.b = min (r.b + dx) 8192 := by
  unfold shF at h
  by_cases k : mvOk dx dy r = true
  · rw [if_pos k] at h
    cases h
    unfold mvOk at k
    exact ⟨of_decide_eq_true k, rfl, rfl, rfl⟩
  · rw [if_neg k] at h
    cases h
theorem chk_shift {ss : List Rn} (h : chk ss = 0) (dx dy : Int) : chk (shiftL dx dy ss) = 0 := by
  rw [shiftL_fm]
  refine chk_fm (fun r s hr e => ?_) (fun a b a' b' ha hb hbh ea eb => ?_) h
  · obtain ⟨h1, h2, h3, h4⟩ := shF_some e
    rw [rnok_iff] at hr ⊢
    omega
  · obtain ⟨h1, h2, h3, h4⟩ := shF_some ea
    obtain ⟨k1, k2, k3, k4⟩ := shF_some eb
    unfold Bh at hbh ⊢
    omega
theorem has_shift {ss : List Rn} {dx dy x y : Int} : has (shiftL dx dy ss) x y = true ↔ Perm x y ∧ has ss (x - dx) (y - dy) = true := by
  rw [shiftL_fm, has_fm, has_iff]
  unfold Perm
  constructor
  · rintro ⟨r, hr, s, e, h1, h2, h3⟩
    obtain ⟨k1, k2, k3, k4⟩ := shF_some e
    exact ⟨by omega, r, hr, by omega, by omega, by omega⟩
  · rintro ⟨hp, r, hr, e1, e2, e3⟩
    have h : mvOk dx dy r = true := by unfold mvOk; rw [decide_eq_true_eq]; omega
    refine ⟨r, hr, _, if_pos h, ?_, ?_, ?_⟩
    · show r.y + dy = y; omega
    · show max (r.a + dx) (-8192) ≤ x; omega
    · show x < min (r.b + dx) 8192; omega

/-! ### narrowed -/
def naF (w : Int) (r : Rn) : Option Rn := if r.a + w < r.b - w then some ⟨r.y, r.a + w, r.b - w⟩ else none
/-- What is left of the runs. -/
def narL (w : Int) (ss : List Rn) : List Rn := ss.filterMap (naF w)
theorem naF_some {w : Int} {r s : Rn} (h : naF w r = some s) : r.a + w < r.b - w ∧ s.y = r.y ∧ s.a = r.a + w ∧ s.b = r.b - w := by
  unfold naF at h
  by_cases k : r.a + w < r.b - w
  · rw [if_pos k] at h; cases h; exact ⟨k, rfl, rfl, rfl⟩
  · rw [if_neg k] at h; cases h
theorem narL_snoc (w : Int) (ss : List Rn) (r : Rn) : narL w (ss ++ [r]) = narL w ss ++ (if r.a + w < r.b - w then [⟨r.y, r.a + w, r.b - w⟩] else []) := by
  unfold narL
  rw [List.filterMap_append]
  congr 1
  unfold naF
  by_cases k : r.a + w < r.b - w
  · rw [if_pos k]; simp [k]
  · rw [if_neg k]; simp [k]
theorem narL_len (w : Int) (ss : List Rn) : (narL w ss).length ≤ ss.length := List.length_filterMap_le _ _
theorem chk_nar {w : Int} (hw : 0 ≤ w) {ss : List Rn} (h : chk ss = 0) : chk (narL w ss) = 0 := by
  refine chk_fm (fun r s hr e => ?_) (fun a b a' b' ha hb hbh ea eb => ?_) h
  · obtain ⟨h1, h2, h3, h4⟩ := naF_some e
    rw [rnok_iff] at hr ⊢
    omega
  · obtain ⟨h1, h2, h3, h4⟩ := naF_some ea
    obtain ⟨k1, k2, k3, k4⟩ := naF_some eb
    unfold Bh at hbh ⊢
    omega
/-- Two cells of a row with all between them lie in one run. -/
theorem one_run {ss : List Rn} (h : chk ss = 0) {x0 x1 y : Int} (h01 : x0 ≤ x1) (hh : ∀ x, x0 ≤ x → x ≤ x1 → has ss x y = true) : ∃ r ∈ ss, r.y = y ∧ r.a ≤ x0 ∧ x1 < r.b := by
  obtain ⟨r, hr, e1, e2, e3⟩ := has_iff.1 (hh x0 (Int.le_refl _) h01)
  refine ⟨r, hr, e1, e2, ?_⟩
  rcases Int.lt_or_le x1 r.b with k | k
  · exact k
  · obtain ⟨s, hs, f1, f2, f3⟩ := has_iff.1 (hh r.b (by omega) k)
    obtain ⟨i, hi, rfl⟩ := List.getElem_of_mem hr
    obtain ⟨j, hj, rfl⟩ := List.getElem_of_mem hs
    have oi := rnok_iff.1 ((chk_all h).1 _ hr)
    have oj := rnok_iff.1 ((chk_all h).1 _ hs)
    rcases Nat.lt_trichotomy i j with c | c | c
    · have := (chk_all h).2 i j _ _ c (List.getElem?_eq_getElem hi) (List.getElem?_eq_getElem hj)
      unfold Bh at this
      omega
    · subst c; omega
    · have := (chk_all h).2 j i _ _ c (List.getElem?_eq_getElem hj) (List.getElem?_eq_getElem hi)
      unfold Bh at this
      omega
theorem has_nar {w : Int} (hw : 0 ≤ w) {ss : List Rn} (h : chk ss = 0) {x y : Int} : has (narL w ss) x y = true ↔ ∀ d, -w ≤ d → d ≤ w → has ss (x + d) y = true := by
  unfold narL
  rw [has_fm]
  constructor
  · rintro ⟨r, hr, s, e, h1, h2, h3⟩ d d1 d2
    obtain ⟨k1, k2, k3, k4⟩ := naF_some e
    exact has_iff.2 ⟨r, hr, by omega, by omega, by omega⟩
  · intro hh
    obtain ⟨r, hr, e1, e2, e3⟩ := one_run h (x0 := x - w) (x1 := x + w) (by omega) (fun x' a b => by
      have := hh (x' - x) (by omega) (by omega)
      rwa [show x + (x' - x) = x' by omega] at this)
    exact ⟨r, hr, _, if_pos (by omega), e1, by show r.a + w ≤ x; omega, by show x < r.b - w; omega⟩

/-! ### widened -/
/-- One run more. -/
def wideS (w : Int) (acc : List Rn) (r : Rn) : List Rn := match acc.getLast? with
  | none => acc ++ [⟨r.y, max (r.a - w) (-8192), min (r.b + w) 8192⟩]
  | some q => if q.y = r.y ∧ max (r.a - w) (-8192) ≤ q.b then setEnd acc (min (r.b + w) 8192) else acc ++ [⟨r.y, max (r.a - w) (-8192), min (r.b + w) 8192⟩]
def wideL (w : Int) (ss : List Rn) : List Rn := ss.foldl (wideS w) []
theorem wideL_snoc (w : Int) (ss : List Rn) (r : Rn) : wideL w (ss ++ [r]) = wideS w (wideL w ss) r := by
  unfold wideL; rw [List.foldl_append]; rfl
def lastOk (w : Int) : Option Rn → Option Rn → Prop
  | none, none => True
  | some p, some q => q.y = p.y ∧ q.a ≤ max (p.a - w) (-8192) ∧ q.b = min (p.b + w) 8192
  | _, _ => False
structure WideI (w : Int) (pre acc : List Rn) : Prop where
  v : chk acc = 0
  n : acc.length ≤ pre.length
  h : ∀ x y, has acc x y = true ↔ Perm x y ∧ ∃ d, (-w ≤ d ∧ d ≤ w) ∧ has pre (x + d) y = true
  l : lastOk w pre.getLast? acc.getLast?
theorem getLast_snoc {xs : List Rn} {l : Rn} (h : xs.getLast? = some l) : ∃ C, xs = C ++ [l] := by
  rcases List.eq_nil_or_concat xs with e | ⟨C, l', e⟩
  · rw [e] at h; cases h
  · rw [List.concat_eq_append] at e
    rw [e] at h
    simp at h
    subst h
    exact ⟨C, e⟩
theorem WideI.start (w : Int) : WideI w [] [] := ⟨rfl, Nat.le_refl _, fun x y => by simp [has], trivial⟩
theorem WideI.step {w : Int} (hw : 0 ≤ w) {pre acc : List Rn} {r : Rn} (H : WideI w pre acc) (hc : chk (pre ++ [r]) = 0) : WideI w (pre ++ [r]) (wideS w acc r) := by
  obtain ⟨c1, c2, c3⟩ := chkAll_snoc.1 hc
  have r2 := rnok_iff.1 c2
  -- the cells of the new run
  have new : ∀ x y, (r.y = y ∧ max (r.a - w) (-8192) ≤ x ∧ x < min (r.b + w) 8192) ↔ (Perm x y ∧ ∃ d, (-w ≤ d ∧ d ≤ w) ∧ hasR r (x + d) y = true) := fun x y => by
    unfold Perm hasR
    simp only [decide_eq_true_eq]
    constructor
    · rintro ⟨h1, h2, h3⟩
      refine ⟨by omega, ?_⟩
      rcases Int.lt_or_le x r.a with k | k
      · exact ⟨r.a - x, by omega, by omega⟩
      · rcases Int.lt_or_le x r.b with k2 | k2
        · exact ⟨0, by omega, by omega⟩
        · exact ⟨r.b - 1 - x, by omega, by omega⟩
    · rintro ⟨hp, d, hd, h1, h2, h3⟩
      omega
  have both : ∀ x y, (Perm x y ∧ ∃ d, (-w ≤ d ∧ d ≤ w) ∧ has (pre ++ [r]) (x + d) y = true) ↔ (has acc x y = true ∨ (r.y = y ∧ max (r.a - w) (-8192) ≤ x ∧ x < min (r.b + w) 8192)) := fun x y => by
    rw [H.h, new]
    constructor
    · rintro ⟨hp, d, hd, hh⟩
      rw [has_snoc, Bool.or_eq_true] at hh
      rcases hh with hh | hh
      · exact .inl ⟨hp, d, hd, hh⟩
      · exact .inr ⟨hp, d, hd, hh⟩
    · rintro (⟨hp, d, hd, hh⟩ | ⟨hp, d, hd, hh⟩)
      · exact ⟨hp, d, hd, by rw [has_snoc, hh]; rfl⟩
      · exact ⟨hp, d, hd, by rw [has_snoc, hh, Bool.or_true]⟩
  have app : (∀ l, acc.getLast? = some l → Bh ⟨r.y, max (r.a - w) (-8192), min (r.b + w) 8192⟩ l) → WideI w (pre ++ [r]) (acc ++ [⟨r.y, max (r.a - w) (-8192), min (r.b + w) 8192⟩]) := fun hl => by
    refine ⟨chkAll_snoc.2 ⟨H.v, ?_, ?_⟩, by have := H.n; simp; omega, fun x y => ?_, ?_⟩
    · rw [rnok_iff]; simp only; omega
    · cases e : acc.getLast? with
      | none => trivial
      | some l => exact hl l e
    · rw [both, has_snoc, Bool.or_eq_true]
      unfold hasR
      simp only [decide_eq_true_eq]
    · rw [List.getLast?_append, List.getLast?_append]
      exact ⟨rfl, Int.le_refl _, rfl⟩
  unfold wideS
  have hL := H.l
  cases e : acc.getLast? with
  | none => exact app (fun l hl => by rw [e] at hl; cases hl)
  | some q =>
    simp only
    rw [e] at hL
    cases e2 : pre.getLast? with
    | none => rw [e2] at hL; exact hL.elim
    | some p =>
      rw [e2] at hL c3
      obtain ⟨l1, l2, l3⟩ := hL
      have hb : Bh r p := c3
      have hp2 := rnok_iff.1 ((chk_all c1).1 p (List.mem_of_getLast? e2))
      unfold Bh at hb
      by_cases hcnd : q.y = r.y ∧ max (r.a - w) (-8192) ≤ q.b
      · rw [if_pos hcnd]
        obtain ⟨C, hC⟩ := getLast_snoc e
        have hv := H.v
        have hn := H.n
        have hh := both
        subst hC
        obtain ⟨v1, v2, v3⟩ := chkAll_snoc.1 hv
        rw [rnok_iff] at v2
        rw [setEnd_snoc]
        refine ⟨chkAll_snoc.2 ⟨v1, ?_, ?_⟩, by simp at hn ⊢; omega, fun x y => ?_, ?_⟩
        · rw [rnok_iff]; simp only; omega
        · cases e3 : C.getLast? with
          | none => trivial
          | some l0 => rw [e3] at v3; exact v3
        · rw [hh, has_snoc, has_snoc, Bool.or_eq_true, Bool.or_eq_true, or_assoc]
          unfold hasR
          simp only [decide_eq_true_eq]
          refine or_congr Iff.rfl ?_
          omega
        · rw [List.getLast?_append, List.getLast?_append]
          refine ⟨hcnd.1, ?_, rfl⟩
          show q.a ≤ max (r.a - w) (-8192)
          omega
      · rw [if_neg hcnd]
        refine app (fun l hl => ?_)
        rw [e] at hl
        cases hl
        unfold Bh
        simp only
        omega
theorem chk_take {ss : List Rn} (h : chk ss = 0) : ∀ k, chk (ss.take k) = 0 := fun k => by
  have : ∀ (xs : List Rn) (p : Option Rn) (k : Nat), chkAll p xs = 0 → chkAll p (xs.take k) = 0 := by
    intro xs
    induction xs with
    | nil => intro p k _; simp [chkAll]
    | cons r xs ih =>
      intro p k hh
      cases k with
      | zero => rfl
      | succ k =>
        obtain ⟨h1, h2, h3⟩ := chkAll_cons.1 hh
        rw [List.take_succ_cons]
        exact chkAll_cons.2 ⟨h1, h2, ih _ _ h3⟩
  exact this ss none k h
theorem wide_take {w : Int} (hw : 0 ≤ w) {ss : List Rn} (h : chk ss = 0) : ∀ k, k ≤ ss.length → WideI w (ss.take k) (wideL w (ss.take k))
  | 0, _ => WideI.start w
  | k + 1, hk => by
    have hk' : k < ss.length := by omega
    have e : ss.take (k + 1) = ss.take k ++ [ss[k]] := List.take_succ_eq_append_getElem hk'
    rw [e, wideL_snoc]
    exact (wide_take hw h k (by omega)).step hw (by rw [← e]; exact chk_take h _)
theorem wide_all {w : Int} (hw : 0 ≤ w) {ss : List Rn} (h : chk ss = 0) : WideI w ss (wideL w ss) := by
  have := wide_take hw h ss.length (Nat.le_refl _)
  rwa [List.take_length] at this

/-! ### shifts that are combined -/
/-- The cells of base, shifted down by lo to hi, as far as they are permitted. -/
structure Ups (base cur : List Rn) (lo hi : Int) : Prop where
  v : chk cur = 0
  h : ∀ x y, has cur x y = true ↔ Perm x y ∧ ∃ d, (lo ≤ d ∧ d ≤ hi) ∧ has base x (y - d) = true
/-- The cells whose upper neighbours, lo to hi above them, are all in base. -/
structure Ins (base cur : List Rn) (lo hi : Int) : Prop where
  v : chk cur = 0
  h : ∀ x y, has cur x y = true ↔ ∀ d, lo ≤ d → d ≤ hi → has base x (y - d) = true
theorem Ups.start {base : List Rn} (h : chk base = 0) : Ups base base 0 0 := ⟨h, fun x y => ⟨fun k => ⟨has_perm h k, 0, by omega, by rwa [Int.sub_zero]⟩, fun ⟨_, d, hd, k⟩ => by
  obtain rfl : d = 0 := by omega
  rwa [Int.sub_zero] at k⟩⟩
theorem Ins.start {base : List Rn} (h : chk base = 0) : Ins base base 0 0 := ⟨h, fun x y => ⟨fun k d h1 h2 => by
  obtain rfl : d = 0 := by omega
  rwa [Int.sub_zero], fun k => by have := k 0 (Int.le_refl _) (Int.le_refl _); rwa [Int.sub_zero] at this⟩⟩
def orK (a b : Bool) : Bool := a || b
/-- What is left to be shifted. -/
def okSt (w : Int) : Int → Int → List Int → Prop
  | lo, hi, [] => lo = -w ∧ hi = w
  | lo, hi, s :: rest => (lo = 0 ∧ 0 < s ∧ s ≤ hi + 1 ∧ okSt w 0 (hi + s) rest) ∨ (s < 0 ∧ -s ≤ 1 - lo ∧ okSt w (lo + s) hi rest)
section
variable {base cur res : List Rn} {lo hi s : Int}
theorem Ups.step (hb : chk base = 0) (H : Ups base cur lo hi) (h0 : lo ≤ 0) (h1 : 0 ≤ hi) (hs : (lo = 0 ∧ 0 < s ∧ s ≤ hi + 1) ∨ (s < 0 ∧ -s ≤ 1 - lo)) (hr : IsOp (fun a b => a || b) cur (shiftL 0 s cur) res) :
    Ups base res (if s < 0 then lo + s else lo) (if s < 0 then hi else hi + s) := by
  refine ⟨hr.v, fun x y => ?_⟩
  rw [hr.h, Bool.or_eq_true, has_shift, H.h, H.h, Int.sub_zero]
  constructor
  · rintro (⟨hp, d, hd, k⟩ | ⟨hp, hp2, d, hd, k⟩)
    · exact ⟨hp, d, by split <;> omega, k⟩
    · have kp := has_perm hb k
      unfold Perm at kp
      rw [show y - s - d = y - (d + s) by omega] at k kp
      exact ⟨hp, d + s, by split <;> omega, k⟩
  · rintro ⟨hp, d, hd, k⟩
    have kp := has_perm hb k
    have hp' := hp
    unfold Perm at kp hp'
    by_cases hin : lo ≤ d ∧ d ≤ hi
    · exact .inl ⟨hp, d, hin, k⟩
    · refine .inr ⟨hp, ?_, d - s, ?_, by rwa [show y - s - (d - s) = y - d by omega]⟩
      · unfold Perm
        rcases hs with ⟨e1, e2, e3⟩ | ⟨e2, e3⟩
        · rw [if_neg (by omega), if_neg (by omega)] at hd; omega
        · rw [if_pos e2, if_pos e2] at hd; omega
      · rcases hs with ⟨e1, e2, e3⟩ | ⟨e2, e3⟩
        · rw [if_neg (by omega), if_neg (by omega)] at hd; omega
        · rw [if_pos e2, if_pos e2] at hd; omega
theorem Ins.step (hb : chk base = 0) (H : Ins base cur lo hi) (h0 : lo ≤ 0) (h1 : 0 ≤ hi) (hs : (lo = 0 ∧ 0 < s ∧ s ≤ hi + 1) ∨ (s < 0 ∧ -s ≤ 1 - lo)) (hr : IsOp (fun a b => a && b) cur (shiftL 0 s cur) res) :
    Ins base res (if s < 0 then lo + s else lo) (if s < 0 then hi else hi + s) := by
  refine ⟨hr.v, fun x y => ?_⟩
  rw [hr.h, Bool.and_eq_true, has_shift, H.h, H.h, Int.sub_zero]
  constructor
  · rintro ⟨k1, hp, k2⟩ d d1 d2
    by_cases hin : lo ≤ d ∧ d ≤ hi
    · exact k1 d hin.1 hin.2
    · have := k2 (d - s) (by split at d1 <;> split at d2 <;> omega) (by split at d1 <;> split at d2 <;> omega)
      rwa [show y - s - (d - s) = y - d by omega] at this
  · intro k
    have k0 := k 0 (by split <;> omega) (by split <;> omega)
    rw [Int.sub_zero] at k0
    refine ⟨fun d d1 d2 => k d (by split <;> omega) (by split <;> omega), has_perm hb k0, fun d d1 d2 => ?_⟩
    have := k (d + s) (by split <;> omega) (by split <;> omega)
    rwa [show y - (d + s) = y - s - d by omega] at this
end

/-! ### the steps -/
def hs (w r : Nat) : List Int := if h : r < w then ((min (r + 1) (w - r) : Nat) : Int) :: hs w (r + min (r + 1) (w - r)) else []
termination_by w - r
decreasing_by omega
theorem hs_lt {w r : Nat} (h : r < w) : hs w r = ((min (r + 1) (w - r) : Nat) : Int) :: hs w (r + min (r + 1) (w - r)) := by rw [hs, dif_pos h]
theorem hs_ge {w r : Nat} (h : w ≤ r) : hs w r = [] := by rw [hs, dif_neg (by omega)]
theorem hs_len (w : Nat) : ∀ (n r : Nat), w - r ≤ n → (hs w r).length ≤ n
  | 0, r, h => by rw [hs_ge (by omega)]; exact Nat.le_refl _
  | n + 1, r, h => by
    rcases Nat.lt_or_ge r w with k | k
    · rw [hs_lt k, List.length_cons]
      exact Nat.succ_le_succ (hs_len w n _ (by omega))
    · rw [hs_ge k]; exact Nat.zero_le _
theorem okSt_down (w : Nat) (T : List Int) (hT : okSt w 0 w T) : ∀ (n r : Nat), w - r ≤ n → r ≤ w → okSt w 0 r (hs w r ++ T)
  | 0, r, h, h2 => by
    obtain rfl : r = w := by omega
    rw [hs_ge (by omega)]; exact hT
  | n + 1, r, h, h2 => by
    rcases Nat.lt_or_ge r w with k | k
    · rw [hs_lt k, List.cons_append]
      refine .inl ⟨rfl, by omega, by omega, ?_⟩
      have := okSt_down w T hT n (r + min (r + 1) (w - r)) (by omega) (by omega)
      rwa [show (((r + min (r + 1) (w - r) : Nat)) : Int) = (r : Int) + ((min (r + 1) (w - r) : Nat) : Int) by omega] at this
    · obtain rfl : r = w := by omega
      rw [hs_ge (by omega)]; exact hT
theorem okSt_up (w : Nat) : ∀ (n r : Nat), w - r ≤ n → r ≤ w → okSt w (-(r : Int)) w ((hs w r).map fun s => -s)
  | 0, r, h, h2 => by
    obtain rfl : r = w := by omega
    rw [hs_ge (by omega)]; exact ⟨rfl, rfl⟩
  | n + 1, r, h, h2 => by
    rcases Nat.lt_or_ge r w with k | k
    · rw [hs_lt k, List.map_cons]
      refine .inr ⟨by omega, by omega, ?_⟩
      have := okSt_up w n (r + min (r + 1) (w - r)) (by omega) (by omega)
      rwa [show -(((r + min (r + 1) (w - r) : Nat)) : Int) = -(r : Int) + -((min (r + 1) (w - r) : Nat) : Int) by omega] at this
    · obtain rfl : r = w := by omega
      rw [hs_ge (by omega)]; exact ⟨rfl, rfl⟩
/-- All shifts, in their order. -/
def stL (w : Nat) : List Int := hs w 0 ++ (hs w 0).map fun s => -s
theorem okSt_all (w : Nat) : okSt w 0 0 (stL w) := okSt_down w _ (okSt_up w w 0 (by omega) (by omega)) w 0 (by omega) (by omega)
theorem stL_len (w : Nat) : (stL w).length ≤ 2 * w := by
  have := hs_len w w 0 (by omega)
  unfold stL
  rw [List.length_append, List.length_map]
  omega

/-! ### dilation and erosion -/
structure Dil (ss : List Rn) (w : Int) (res : List Rn) : Prop where
  v : chk res = 0
  h : ∀ x y, has res x y = true ↔ Perm x y ∧ ∃ dx dy, (-w ≤ dx ∧ dx ≤ w) ∧ (-w ≤ dy ∧ dy ≤ w) ∧ has ss (x + dx) (y + dy) = true
structure Ero (ss : List Rn) (w : Int) (res : List Rn) : Prop where
  v : chk res = 0
  h : ∀ x y, has res x y = true ↔ ∀ dx dy, (-w ≤ dx ∧ dx ≤ w) → (-w ≤ dy ∧ dy ≤ w) → has ss (x + dx) (y + dy) = true
theorem has_eq {xs ys : List Rn} {x y : Int} (h : has xs x y = true ↔ has ys x y = true) : has xs x y = has ys x y := Bool.eq_iff_iff.2 h
theorem Dil.uniq {ss r s : List Rn} {w : Int} (h : Dil ss w r) (k : Dil ss w s) : r = s := has_inj h.v k.v fun x y => has_eq ((h.h x y).trans (k.h x y).symm)
theorem Ero.uniq {ss r s : List Rn} {w : Int} (h : Ero ss w r) (k : Ero ss w s) : r = s := has_inj h.v k.v fun x y => has_eq ((h.h x y).trans (k.h x y).symm)
theorem dil_of {ss wide res : List Rn} {w : Int} (hz : chk ss = 0) (h1 : WideI w ss wide) (h2 : Ups wide res (-w) w) : Dil ss w res := by
  refine ⟨h2.v, fun x y => ?_⟩
  rw [h2.h]
  constructor
  · rintro ⟨hp, d, hd, k⟩
    obtain ⟨-, dx, hdx, k2⟩ := (h1.h _ _).1 k
    exact ⟨hp, dx, -d, hdx, by omega, by rwa [← Int.sub_eq_add_neg]⟩
  · rintro ⟨hp, dx, dy, hdx, hdy, k⟩
    refine ⟨hp, -dy, by omega, (h1.h _ _).2 ⟨?_, dx, hdx, by rwa [show y - -dy = y + dy by omega]⟩⟩
    have := has_perm hz k
    unfold Perm at *
    omega
theorem ero_of {ss res : List Rn} {w : Int} (hw : 0 ≤ w) (hz : chk ss = 0) (h2 : Ins (narL w ss) res (-w) w) : Ero ss w res := by
  refine ⟨h2.v, fun x y => ?_⟩
  rw [h2.h]
  constructor
  · intro k dx dy hdx hdy
    have := (has_nar hw hz).1 (k (-dy) (by omega) (by omega)) dx hdx.1 hdx.2
    rwa [show y - -dy = y + dy by omega] at this
  · intro k d d1 d2
    refine (has_nar hw hz).2 fun dx e1 e2 => ?_
    have := k dx (-d) ⟨e1, e2⟩ (by omega)
    rwa [show y + -d = y - d by omega] at this

/-! ### laws -/
/-- xs lies in ys. -/
def Sub (xs ys : List Rn) : Prop := ∀ x y, has xs x y = true → has ys x y = true
/-- The cells lie within a square. -/
def Sq (m : Int) (ss : List Rn) : Prop := ∀ x y, has ss x y = true → (-m ≤ x ∧ x ≤ m) ∧ (-m ≤ y ∧ y ≤ m)
theorem Dil.sq {ss d : List Rn} {w m : Int} (h : Dil ss w d) (hm : Sq m ss) : Sq (m + w) d := fun x y k => by
  obtain ⟨-, dx, dy, h1, h2, h3⟩ := (h.h x y).1 k
  have := hm _ _ h3
  omega
theorem Dil.of_sq {ss d : List Rn} {w m : Int} (h : Dil ss w d) (hm : Sq m ss) (hmw : m + w ≤ 8000) {x y dx dy : Int} (h1 : -w ≤ dx ∧ dx ≤ w) (h2 : -w ≤ dy ∧ dy ≤ w) (k : has ss (x + dx) (y + dy) = true) : has d x y = true := by
  refine (h.h x y).2 ⟨?_, dx, dy, h1, h2, k⟩
  have := hm _ _ k
  unfold Perm
  omega
/-- A dilated region lies in another one just if the region lies in the eroded one. -/
theorem adj {a b d s : List Rn} {w m : Int} (hd : Dil a w d) (hs : Ero b w s) (ha : Sq m a) (hm : m + w ≤ 8000) : Sub d b ↔ Sub a s := by
  constructor
  · intro h x y k
    refine (hs.h x y).2 fun dx dy h1 h2 => h _ _ ?_
    refine hd.of_sq ha hm (dx := -dx) (dy := -dy) (by omega) (by omega) ?_
    rwa [show x + dx + -dx = x by omega, show y + dy + -dy = y by omega]
  · intro h x y k
    obtain ⟨-, dx, dy, h1, h2, h3⟩ := (hd.h x y).1 k
    have := (hs.h _ _).1 (h _ _ h3) (-dx) (-dy) (by omega) (by omega)
    rwa [show x + dx + -dx = x by omega, show y + dy + -dy = y by omega] at this
theorem Sub.rfl {a : List Rn} : Sub a a := fun _ _ k => k
theorem Sub.trans {a b c : List Rn} (h : Sub a b) (k : Sub b c) : Sub a c := fun x y q => k x y (h x y q)
theorem Sub.sq {a b : List Rn} {m : Int} (h : Sub a b) (k : Sq m b) : Sq m a := fun x y q => k x y (h x y q)
theorem Sq.mono {a : List Rn} {m n : Int} (h : Sq m a) (k : m ≤ n) : Sq n a := fun x y q => by have := h x y q; omega
theorem Sub.anti {a b : List Rn} (ha : chk a = 0) (hb : chk b = 0) (h : Sub a b) (k : Sub b a) : a = b := has_inj ha hb fun x y => has_eq ⟨h x y, k x y⟩
theorem Dil.mono {a b c d : List Rn} {w : Int} (h : Dil a w c) (k : Dil b w d) (hs : Sub a b) : Sub c d := fun x y q => by
  obtain ⟨hp, dx, dy, h1, h2, h3⟩ := (h.h x y).1 q
  exact (k.h x y).2 ⟨hp, dx, dy, h1, h2, hs _ _ h3⟩
theorem Ero.mono {a b c d : List Rn} {w : Int} (h : Ero a w c) (k : Ero b w d) (hs : Sub a b) : Sub c d := fun x y q => (k.h x y).2 fun dx dy h1 h2 => hs _ _ ((h.h x y).1 q dx dy h1 h2)
theorem Ero.sub {a c : List Rn} {w : Int} (hw : 0 ≤ w) (h : Ero a w c) : Sub c a := fun x y q => by
  have := (h.h x y).1 q 0 0 (by omega) (by omega)
  rwa [Int.add_zero, Int.add_zero] at this
/-- What is dilated and eroded contains the region. -/
theorem unit_ {a d t : List Rn} {w m : Int} (hd : Dil a w d) (ht : Ero d w t) (ha : Sq m a) (hm : m + w ≤ 8000) : Sub a t := (adj hd ht ha hm).1 Sub.rfl
/-- What is eroded and dilated lies in the region. -/
theorem counit {a s o : List Rn} {w m : Int} (hw : 0 ≤ w) (hs : Ero a w s) (ho : Dil s w o) (ha : Sq m a) (hm : m + w ≤ 8000) : Sub o a := (adj ho hs ((hs.sub hw).sq ha) hm).2 Sub.rfl
theorem open_twice {r s o s2 p : List Rn} {w m : Int} (hw : 0 ≤ w) (h1 : Ero r w s) (h2 : Dil s w o) (h3 : Ero o w s2) (h4 : Dil s2 w p) (hr : Sq m r) (hm : m + w + w ≤ 8000) : o = p := by
  have ho : Sub o r := counit hw h1 h2 hr (by omega)
  refine Sub.anti h2.v h4.v ?_ (counit hw h3 h4 (ho.sq hr) (by omega))
  exact h2.mono h4 (unit_ h2 h3 ((h1.sub hw).sq hr) (by omega))
theorem close_twice {r d c d2 e : List Rn} {w m : Int} (hw : 0 ≤ w) (h1 : Dil r w d) (h2 : Ero d w c) (h3 : Dil c w d2) (h4 : Ero d2 w e) (hr : Sq m r) (hm : m + w + w ≤ 8000) : c = e := by
  have hd := h1.sq hr
  have hc : Sq (m + w) c := (h2.sub hw).sq hd
  refine Sub.anti h2.v h4.v (unit_ h3 h4 hc (by omega)) ?_
  exact h4.mono h2 (counit hw h2 h3 hd (by omega))
/-- The two parts of a distance. -/
theorem parts {v w d : Int} (hv : 0 ≤ v) (hw : 0 ≤ w) (h : -(v + w) ≤ d ∧ d ≤ v + w) : ∃ e f, (-v ≤ e ∧ e ≤ v) ∧ (-w ≤ f ∧ f ≤ w) ∧ d = e + f := by
  rcases Int.lt_or_le d (-w) with k | k
  · exact ⟨d + w, -w, by omega, by omega, by omega⟩
  · rcases Int.lt_or_le w d with k2 | k2
    · exact ⟨d - w, w, by omega, by omega, by omega⟩
    · exact ⟨0, d, by omega, by omega, by omega⟩
theorem dil_adds {r a b c : List Rn} {v w m : Int} (hv : 0 ≤ v) (hw : 0 ≤ w) (h1 : Dil r v a) (h2 : Dil a w b) (h3 : Dil r (v + w) c) (hr : Sq m r) (hm : m + v + w ≤ 8000) : b = c := by
  refine Sub.anti h2.v h3.v (fun x y k => ?_) (fun x y k => ?_)
  · obtain ⟨hp, dx, dy, e1, e2, k2⟩ := (h2.h x y).1 k
    obtain ⟨hp2, fx, fy, g1, g2, k3⟩ := (h1.h _ _).1 k2
    exact (h3.h x y).2 ⟨hp, dx + fx, dy + fy, by omega, by omega, by rwa [← Int.add_assoc, ← Int.add_assoc]⟩
  · obtain ⟨hp, dx, dy, e1, e2, k2⟩ := (h3.h x y).1 k
    obtain ⟨ex, fx, p1, p2, p3⟩ := parts hv hw e1
    obtain ⟨ey, fy, q1, q2, q3⟩ := parts hv hw e2
    refine (h2.h x y).2 ⟨hp, fx, fy, p2, q2, h1.of_sq hr (by omega) (dx := ex) (dy := ey) p1 q1 ?_⟩
    rwa [show x + fx + ex = x + dx by omega, show y + fy + ey = y + dy by omega]
theorem ero_adds {c x1 y1 z : List Rn} {v w : Int} (hv : 0 ≤ v) (hw : 0 ≤ w) (h1 : Ero c v x1) (h2 : Ero x1 w y1) (h3 : Ero c (v + w) z) : y1 = z := by
  refine Sub.anti h2.v h3.v (fun x y k => ?_) (fun x y k => ?_)
  · refine (h3.h x y).2 fun dx dy e1 e2 => ?_
    obtain ⟨ex, fx, p1, p2, p3⟩ := parts hv hw e1
    obtain ⟨ey, fy, q1, q2, q3⟩ := parts hv hw e2
    have := (h1.h _ _).1 ((h2.h x y).1 k fx fy p2 q2) ex ey p1 q1
    rwa [show x + fx + ex = x + dx by omega, show y + fy + ey = y + dy by omega] at this
  · refine (h2.h x y).2 fun fx fy p2 q2 => (h1.h _ _).2 fun ex ey p1 q1 => ?_
    have := (h3.h x y).1 k (ex + fx) (ey + fy) (by omega) (by omega)
    rwa [show x + (ex + fx) = x + fx + ex by omega, show y + (ey + fy) = y + fy + ey by omega] at this

end Go.Proofs.Ytldbpabnfjnpbaa
