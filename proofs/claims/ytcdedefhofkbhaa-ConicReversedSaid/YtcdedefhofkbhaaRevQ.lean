/- Reversing a valid path twice changes nothing; the reversed path is valid, and has the same points. -/
import Derived.Test.YtcdedefhofkbhaaRevP
namespace Go.Proofs.Ytcdedefhofkbhaa
open Go
set_option linter.unusedVariables false
set_option linter.unusedSimpArgs false

/-- A valid path's subpath. -/
structure Sub (t : List Sg) : Prop where
  n : 0 < t.length
  k0 : (sg t 0).k = 1
  inner : ∀ j, 0 < j → j < t.length → (sg t j).k ≠ 1
  open_ : ∀ j, j + 1 < t.length → (sg t j).k ≠ 4
  ok : ∀ j, j < t.length → Okay (sg t j)

theorem sub_length {ss : List Sg} {i : Nat} (hl : i < ss.length) : ((ss.drop i).take (ends ss i - i)).length = ends ss i - i := by
  rw [List.length_take, List.length_drop]
  have := ends_le hl
  omega
theorem sub_of {ss : List Sg} (hok : chk ss = 0) {i : Nat} (hl : i < ss.length) (hm : (sg ss i).k = 1) : Sub ((ss.drop i).take (ends ss i - i)) := by
  have hg := ends_gt ss i
  have he := ends_le hl
  have e : ∀ j, j < ends ss i - i → sg ((ss.drop i).take (ends ss i - i)) j = sg ss (i + j) := fun j hj => sg_sub hj
  refine ⟨?_, ?_, ?_, ?_, ?_⟩
  · rw [sub_length hl]; omega
  · rw [e 0 (by omega)]; exact hm
  · intro j h0 hj
    rw [sub_length hl] at hj
    rw [e j hj]
    exact within_sub (i := i) (by omega) (by omega) hl
  · intro j hj hk
    rw [sub_length hl] at hj
    rw [e j (by omega)] at hk
    have h1 := sg_okay hok (show i + j + 1 < ss.length by omega)
    rw [Nat.add_sub_cancel, show decide (0 < i + j + 1 ∧ (sg ss (i + j)).k ≠ 4) = false by simp [hk]] at h1
    rcases (okay_of h1).2 with h2 | h2
    · cases h2
    · exact within_sub (i := i) (by omega) (show i + j + 1 < ends ss i by omega) hl h2
  · intro j hj
    rw [sub_length hl] at hj
    rw [e j hj]
    exact (okay_of (sg_okay hok (by omega))).1

theorem sg_backs (ss : List Sg) (lo : Nat) : ∀ (d j : Nat), j < d → (backs ss lo d)[j]? = some ⟨(sg ss (lo + d - j)).k, (sg ss (lo + d - j - 1)).x, (sg ss (lo + d - j - 1)).y, (sg ss (lo + d - j)).u, (sg ss (lo + d - j)).v, (sg ss (lo + d - j)).w⟩
  | d + 1, 0, _ => by rw [backs_succ]; rfl
  | d + 1, j + 1, h => by
    rw [backs_succ, List.getElem?_cons_succ, sg_backs ss lo d j (by omega), show lo + (d + 1) - (j + 1) = lo + d - j by omega]

/-- A reversed subpath, its last point and whether it is closed given. -/
def rS (t : List Sg) (l : Nat) (cl : Bool) : List Sg := mvOf t l :: backs t 0 l ++ (if cl then [⟨4, 0, 0, 0, 0, 0⟩] else [])
theorem rS_length (t : List Sg) (l : Nat) (cl : Bool) : (rS t l cl).length = l + 1 + cl.toNat := by
  unfold rS
  cases cl <;> simp [backs_length]
theorem sg_some {ss : List Sg} {i : Nat} {s : Sg} (h : ss[i]? = some s) : sg ss i = s := by
  unfold sg
  rw [List.getD_eq_getElem?_getD, h]
  rfl
theorem rS_zero (t : List Sg) (l : Nat) (cl : Bool) : sg (rS t l cl) 0 = mvOf t l := rfl
theorem rS_succ (t : List Sg) (l : Nat) (cl : Bool) {j : Nat} (h : j < l) : sg (rS t l cl) (j + 1) = ⟨(sg t (l - j)).k, (sg t (l - j - 1)).x, (sg t (l - j - 1)).y, (sg t (l - j)).u, (sg t (l - j)).v, (sg t (l - j)).w⟩ := by
  refine sg_some ?_
  unfold rS
  rw [List.cons_append, List.getElem?_cons_succ, List.getElem?_append_left (by rw [backs_length]; exact h), sg_backs t 0 l j h, Nat.zero_add]
theorem rS_last (t : List Sg) (l : Nat) : sg (rS t l true) (l + 1) = ⟨4, 0, 0, 0, 0, 0⟩ := by
  refine sg_some ?_
  unfold rS
  rw [List.cons_append, List.getElem?_cons_succ, List.getElem?_append_right (by rw [backs_length]; exact Nat.le_refl _), backs_length, Nat.sub_self]
  rfl
theorem rS_x (t : List Sg) (l : Nat) (cl : Bool) {j : Nat} (h : j ≤ l) : (sg (rS t l cl) j).x = (sg t (l - j)).x ∧ (sg (rS t l cl) j).y = (sg t (l - j)).y := by
  cases j with
  | zero => rw [rS_zero]; exact ⟨rfl, rfl⟩
  | succ j => rw [rS_succ t l cl (by omega), show l - (j + 1) = l - j - 1 by omega]; exact ⟨rfl, rfl⟩

theorem Okay.one {s : Sg} (h : Okay s) (hk : s.k = 1) : s = ⟨1, s.x, s.y, 0, 0, 0⟩ := by
  have := h.m
  unfold mean at this
  rw [if_neg (by omega), if_neg (by omega), hk] at this
  exact this
theorem Okay.two {s : Sg} (h : Okay s) (hk : s.k = 2) : s = ⟨2, s.x, s.y, 0, 0, 0⟩ := by
  have := h.m
  unfold mean at this
  rw [if_neg (by omega), if_neg (by omega), hk] at this
  exact this
theorem Okay.four {s : Sg} (h : Okay s) (hk : s.k = 4) : s = ⟨4, 0, 0, 0, 0, 0⟩ := by
  have := h.m
  unfold mean at this
  rw [if_neg (by omega), if_pos hk, hk] at this
  exact this
theorem Okay.move {s : Sg} (h : Okay s) : Okay ⟨1, s.x, s.y, 0, 0, 0⟩ := by
  have h1 := wi4.1 h.r
  exact ⟨⟨by show (1:Int) ≤ 1; omega, by show (1:Int) ≤ 4; omega⟩, rfl, wi4.2 ⟨h1.1, h1.2.1, ⟨by show -32767 ≤ (0:Int); omega, by show (0:Int) ≤ 32767; omega⟩, ⟨by show -32767 ≤ (0:Int); omega, by show (0:Int) ≤ 32767; omega⟩⟩, fun e => by cases e⟩
theorem Okay.back {a b : Sg} (ha : Okay a) (hb : Okay b) (h1 : b.k ≠ 1) (h4 : b.k ≠ 4) : Okay ⟨b.k, a.x, a.y, b.u, b.v, b.w⟩ := by
  have r1 := wi4.1 ha.r
  have r2 := wi4.1 hb.r
  refine ⟨hb.k, ?_, wi4.2 ⟨r1.1, r1.2.1, r2.2.2.1, r2.2.2.2⟩, hb.w⟩
  by_cases h3 : b.k = 3
  · unfold mean
    rw [if_pos h3]
  · have h2 : b.k = 2 := by have := hb.k; omega
    have e := hb.two h2
    unfold mean
    rw [if_neg h3, if_neg h4]
    rw [e]
theorem Okay.chk {s : Sg} {o : Bool} (h : Okay s) (ho : o = true ∨ s.k = 1) : chkSeg s o = 0 := by
  unfold chkSeg
  have hk := h.k
  rw [if_neg (by omega), if_neg (by rintro ⟨e, e'⟩; subst e; rcases ho with ho | ho; cases ho; exact e' ho), if_neg (fun e => e h.m), if_neg (fun e => e h.r), if_neg (by rintro ⟨e, e'⟩; have := h.w e; omega)]

theorem chkAll_append : ∀ {a b : List Sg} {o : Bool}, chkAll o a = 0 → (∀ o', chkAll o' b = 0) → chkAll o (a ++ b) = 0
  | [], b, o, _, hb => hb o
  | s :: a, b, o, ha, hb => by
    obtain ⟨h1, h2⟩ := chkAll_step ha
    rw [List.cons_append, chkAll, if_pos h1]
    exact chkAll_append h2 hb

/-! ### one subpath -/
/-- The last segment with a point, and whether the subpath is closed. -/
theorem sub_last {t : List Sg} (h : Sub t) : ∃ l cl, l + 1 + Bool.toNat cl = t.length ∧ ((sg t (t.length - 1)).k = 4 ↔ cl = true) ∧ revSub t 0 t.length = rS t l cl ∧ (∀ j, 0 < j → j ≤ l → (sg t j).k ≠ 1 ∧ (sg t j).k ≠ 4) := by
  by_cases hc : (sg t (t.length - 1)).k = 4
  · have hn : 2 ≤ t.length := by
      have h0 := h.n
      have hk := h.k0
      rcases Nat.lt_or_ge t.length 2 with e | e
      · rw [show t.length - 1 = 0 by omega, hk] at hc; cases hc
      · exact e
    refine ⟨t.length - 2, true, by simp; omega, by simp [hc], ?_, fun j h0 hj => ⟨h.inner j h0 (by omega), h.open_ j (by omega)⟩⟩
    unfold revSub lastOf rS
    rw [if_pos hc, if_pos hc, Nat.sub_zero]
    rfl
  · have h0 := h.n
    refine ⟨t.length - 1, false, by simp; omega, by simp [hc], ?_, fun j h0 hj => ⟨h.inner j h0 (by omega), ?_⟩⟩
    · unfold revSub lastOf rS
      rw [if_neg hc, if_neg hc, Nat.sub_zero]
      rfl
    · rcases Nat.lt_or_ge (j + 1) t.length with e | e
      · exact h.open_ j e
      · rw [show j = t.length - 1 by omega]; exact hc

theorem sg_ext {a b : List Sg} (hl : a.length = b.length) (h : ∀ j, j < a.length → sg a j = sg b j) : a = b := by
  refine List.ext_getElem hl fun j h1 h2 => ?_
  rw [sg_at h1, sg_at h2]
  exact h j h1

theorem sub_rev {t : List Sg} (h : Sub t) : (revSub t 0 t.length).length = t.length ∧ revSub (revSub t 0 t.length) 0 t.length = t ∧ (sg (revSub t 0 t.length) 0).k = 1 ∧ (∀ j, 0 < j → j < t.length → (sg (revSub t 0 t.length) j).k ≠ 1) ∧ (∀ o, chkAll o (revSub t 0 t.length) = 0) := by
  obtain ⟨l, cl, hl, hcl, hr, hin⟩ := sub_last h
  rw [hr]
  have hlen : (rS t l cl).length = t.length := by rw [rS_length]; exact hl
  have hlt : l < t.length := by omega
  have hok := fun j (hj : j ≤ l) => h.ok j (show j < t.length by omega)
  have hlast : (sg (rS t l cl) (t.length - 1)).k = 4 ↔ cl = true := by
    cases cl with
    | true => rw [show t.length - 1 = l + 1 by simp at hl; omega, rS_last]; simp
    | false =>
      have e : t.length - 1 = l := by simp at hl; omega
      rw [e]
      cases l with
      | zero => rw [rS_zero]; simp
      | succ l =>
        rw [rS_succ _ _ _ (Nat.lt_succ_self l), show l + 1 - l = 1 by omega]
        have := (hin 1 (by omega) (by omega)).2
        simp [this]
  refine ⟨hlen, ?_, rfl, ?_, ?_⟩
  · have e2 : revSub (rS t l cl) 0 t.length = rS (rS t l cl) l cl := by
      cases cl with
      | true =>
        unfold revSub lastOf
        rw [if_pos (hlast.2 rfl), if_pos (hlast.2 rfl), show t.length - 2 = l by simp at hl; omega, Nat.sub_zero]
        rfl
      | false =>
        have := fun e => Bool.false_ne_true (hlast.1 e)
        unfold revSub lastOf
        rw [if_neg this, if_neg this, show t.length - 1 = l by simp at hl; omega, Nat.sub_zero]
        rfl
    rw [e2]
    refine sg_ext (by rw [rS_length]; exact hl) fun j hj => ?_
    rw [rS_length] at hj
    cases j with
    | zero =>
      have hx := rS_x t l cl (Nat.le_refl l)
      rw [Nat.sub_self] at hx
      rw [rS_zero, mvOf, hx.1, hx.2]
      exact ((hok 0 (Nat.zero_le _)).one h.k0).symm
    | succ j =>
      rcases Nat.lt_or_ge j l with hj' | hj'
      · rw [rS_succ _ _ _ hj', (rS_x t l cl (show l - j - 1 ≤ l by omega)).1, (rS_x t l cl (show l - j - 1 ≤ l by omega)).2, show l - (l - j - 1) = j + 1 by omega]
        rw [show l - j = (l - j - 1) + 1 by omega, rS_succ _ _ _ (show l - j - 1 < l by omega), show l - (l - j - 1) = j + 1 by omega]
      · cases cl with
        | false => exfalso; simp at hj; omega
        | true =>
          have e : j = l := by simp at hj; omega
          subst e
          rw [rS_last]
          have h4 : (sg t (j + 1)).k = 4 := by
            have := hcl.2 rfl
            rwa [show t.length - 1 = j + 1 by simp at hl; omega] at this
          exact ((h.ok (j + 1) (by simp at hl; omega)).four h4).symm
  · intro j h0 hj
    obtain ⟨j, rfl⟩ : ∃ i, j = i + 1 := ⟨j - 1, by omega⟩
    rcases Nat.lt_or_ge j l with hj' | hj'
    · rw [rS_succ _ _ _ hj']
      exact (hin (l - j) (by omega) (by omega)).1
    · cases cl with
      | false => exfalso; simp at hl; omega
      | true =>
        have e : j = l := by simp at hl; omega
        subst e
        rw [rS_last]
        decide
  · intro o
    have hmv : Okay (mvOf t l) := (hok l (Nat.le_refl l)).move
    have hcls : ∀ o', o' = true → chkAll o' (if cl then [(⟨4, 0, 0, 0, 0, 0⟩ : Sg)] else []) = 0 := fun o' ho => by subst ho; cases cl <;> decide
    have hbk : ∀ d, d ≤ l → chkAll true (backs t 0 d ++ (if cl then [(⟨4, 0, 0, 0, 0, 0⟩ : Sg)] else [])) = 0 := by
      intro d
      induction d with
      | zero => intro _; exact hcls true rfl
      | succ d ih =>
        intro hd
        rw [backs_succ, List.cons_append, chkAll]
        have hk := hin (d + 1) (by omega) hd
        have h1 := (hok d (by omega)).back (hok (d + 1) hd) hk.1 hk.2
        simp only [Nat.zero_add]
        rw [if_pos (h1.chk (.inl rfl))]
        rw [show decide ((sg t (d + 1)).k ≠ 4) = true by simp [hk.2]]
        exact ih (by omega)
    unfold rS
    rw [List.cons_append, chkAll, if_pos (hmv.chk (.inr rfl))]
    exact hbk l (Nat.le_refl l)

theorem take_sg {t : List Sg} {d : Nat} (h : d < t.length) : t.take (d + 1) = t.take d ++ [sg t d] := by
  rw [List.take_succ_eq_append_getElem h, sg_at h]
/-! ### all subpaths -/
theorem ends_is {ss : List Sg} {i e : Nat} (hi : i < e) (he : e ≤ ss.length) (h1 : ∀ j, i < j → j < e → (sg ss j).k ≠ 1) (h2 : e < ss.length → (sg ss e).k = 1) : ends ss i = e := by
  have hg := ends_gt ss i
  rcases Nat.lt_trichotomy (ends ss i) e with h | h | h
  · exact absurd (ends_move ss i (by omega)) (h1 _ hg h)
  · exact h
  · have hle := ends_le (show i < ss.length by omega)
    exact absurd (h2 (by omega)) (within_sub hi h (by omega))
theorem sg_right {a b : List Sg} {j : Nat} (h : a.length ≤ j) : sg (a ++ b) j = sg b (j - a.length) := by
  unfold sg
  rw [List.getD_eq_getElem?_getD, List.getD_eq_getElem?_getD, List.getElem?_append_right h]
theorem sg_left {a b : List Sg} {j : Nat} (h : j < a.length) : sg (a ++ b) j = sg a j := by
  unfold sg
  rw [List.getD_eq_getElem?_getD, List.getD_eq_getElem?_getD, List.getElem?_append_left h]

theorem revSub_t {ss : List Sg} (hok : chk ss = 0) {i : Nat} (hl : i < ss.length) (hm : (sg ss i).k = 1) : revSub ss i (ends ss i) = revSub ((ss.drop i).take (ends ss i - i)) 0 ((ss.drop i).take (ends ss i - i)).length := by
  have hg := ends_gt ss i
  have hle := ends_le hl
  rw [sub_length hl, revSub_sub (by omega) (by
    rw [show i + (ends ss i - i) = ends ss i by omega]
    intro h
    have := closed_len hok hl hm h
    omega), show i + (ends ss i - i) = ends ss i by omega]

theorem revFrom_first {ss : List Sg} {f i : Nat} (hl : i < ss.length) (hf : ss.length ≤ i + f) : (sg (revFrom ss f i) 0).k = 1 := by
  cases f with
  | zero => omega
  | succ f => rw [revFrom, if_pos hl]; rfl

theorem rev_all {ss : List Sg} (hok : chk ss = 0) : ∀ (f i : Nat) (acc : List Sg), i ≤ ss.length → ss.length ≤ i + f → (i < ss.length → (sg ss i).k = 1) → acc.length = i →
    revFrom (acc ++ revFrom ss f i) f i = ss.drop i ∧ (∀ o, chkAll o (revFrom ss f i) = 0)
  | 0, i, acc, h, h', _, _ => by
    rw [List.drop_eq_nil_of_le (by omega)]
    exact ⟨rfl, fun _ => rfl⟩
  | f + 1, i, acc, h, h', hm, hacc => by
    rcases Nat.lt_or_ge i ss.length with hl | hl
    · have hg := ends_gt ss i
      have hle := ends_le hl
      have hsub := sub_of hok hl (hm hl)
      have hrt := revSub_t hok hl (hm hl)
      have hlen := sub_length hl
      obtain ⟨r1, r2, r3, r4, r5⟩ := sub_rev hsub
      have hsplit : (ss.drop i).take (ends ss i - i) ++ ss.drop (ends ss i) = ss.drop i := by
        rw [show ss.drop (ends ss i) = (ss.drop i).drop (ends ss i - i) by rw [List.drop_drop, show i + (ends ss i - i) = ends ss i by omega], List.take_append_drop]
      rw [show revFrom ss (f + 1) i = revSub ss i (ends ss i) ++ revFrom ss f (ends ss i) by rw [revFrom, if_pos hl], hrt]
      generalize (ss.drop i).take (ends ss i - i) = t at hsub hrt hlen r1 r2 r3 r4 r5 hsplit
      generalize hR : revSub t 0 t.length = R at r1 r2 r3 r4 r5
      have hRl : R.length = ends ss i - i := r1.trans hlen
      obtain ⟨i1, i2⟩ := rev_all hok f (ends ss i) (acc ++ R) hle (by omega) (ends_move ss i) (by rw [List.length_append]; omega)
      have htot : (revFrom ss f (ends ss i)).length = ss.length - ends ss i := revFrom_length hok f _ hle (by omega) (ends_move ss i)
      refine ⟨?_, fun o => chkAll_append (r5 o) i2⟩
      · have hX : acc ++ (R ++ revFrom ss f (ends ss i)) = (acc ++ R) ++ revFrom ss f (ends ss i) := (List.append_assoc _ _ _).symm
        rw [hX]
        generalize hS : (acc ++ R) ++ revFrom ss f (ends ss i) = S at i1
        have hSl : S.length = ss.length := by rw [← hS, List.length_append, List.length_append, htot]; omega
        have hE : ends S i = ends ss i := by
          refine ends_is hg (by omega) (fun j h1 h2 => ?_) (fun h1 => ?_)
          · rw [← hS, sg_left (by rw [List.length_append]; omega), sg_right (by omega)]
            exact r4 _ (by omega) (by omega)
          · rw [← hS, sg_right (by rw [List.length_append]; omega), show ends ss i - (acc ++ R).length = 0 by rw [List.length_append]; omega]
            exact revFrom_first (by omega) (by omega)
        have hD : (S.drop i).take (ends ss i - i) = R := by
          rw [← hS, List.append_assoc, List.drop_append_of_le_length (by omega), List.drop_eq_nil_of_le (by omega), List.nil_append, List.take_append_of_le_length (by omega), List.take_of_length_le (by omega)]
        have hRS : revSub S i (ends ss i) = t := by
          have := revSub_sub (ss := S) (i := i) (n := ends ss i - i) (by omega) (fun hc => by
            rcases Nat.lt_or_ge (ends ss i - i) 2 with e | e
            · exfalso
              rw [show i + (ends ss i - i) - 1 = i by omega, ← hS, sg_left (by rw [List.length_append]; omega), sg_right (by omega), show i - acc.length = 0 by omega, r3] at hc
              cases hc
            · exact e)
          rw [hD, show i + (ends ss i - i) = ends ss i by omega, ← hlen] at this
          rw [← this]
          exact r2
        rw [revFrom, if_pos (by omega), hE, hRS, i1]
        exact hsplit
    · rw [revFrom_end ss (f + 1) i hl, revFrom_end _ (f + 1) i (by rw [List.append_nil]; omega), List.drop_eq_nil_of_le hl]
      exact ⟨rfl, fun _ => rfl⟩

theorem rev_chk {ss : List Sg} (hok : chk ss = 0) : chk (rev ss) = 0 := by
  have h := (rev_all hok ss.length 0 [] (Nat.zero_le _) (by omega) (first_move hok) rfl).2 false
  unfold chk
  rw [rev_length hok, if_neg (by have := chk_le hok; omega)]
  exact h
theorem rev_rev {ss : List Sg} (hok : chk ss = 0) : rev (rev ss) = ss := by
  have h := (rev_all hok ss.length 0 [] (Nat.zero_le _) (by omega) (first_move hok) rfl).1
  rw [List.nil_append, List.drop_zero] at h
  show revFrom (rev ss) (rev ss).length 0 = ss
  rw [rev_length hok]
  exact h
end Go.Proofs.Ytcdedefhofkbhaa
