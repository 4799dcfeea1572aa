/- The lines of a reversed path are the reversed lines. -/
import Derived.Test.YtcdedefhofkbhaaRevQ
import Derived.Test.YtcdedefhofkbhaaLnM
namespace Go.Proofs.Ytcdedefhofkbhaa
open Go Go.RowKit
set_option linter.unusedVariables false
set_option linter.unusedSimpArgs false

def revLn (l : Ln) : Ln := ⟨l.ps.reverse, l.cl⟩
/-- The points up to segment d of a subpath. -/
def gp (t : List Sg) : Nat → List P2
  | 0 => [⟨(sg t 0).x, (sg t 0).y⟩]
  | d + 1 => gp t d ++ replP ⟨(sg t d).x, (sg t d).y⟩ (sg t (d + 1))
/-- A subpath, its last segment with a point, and whether it is closed. -/
structure Sb (t : List Sg) (l : Nat) (cl : Bool) : Prop where
  n : l + 1 + cl.toNat = t.length
  k0 : (sg t 0).k = 1
  i : ∀ j, 0 < j → j ≤ l → (sg t j).k ≠ 1 ∧ (sg t j).k ≠ 4
  c : cl = true → (sg t (l + 1)).k = 4
  ok : ∀ j, j ≤ l → Okay (sg t j)
section
variable {t : List Sg} {l : Nat} {cl : Bool}
theorem Sb.seg (h : Sb t l cl) {j : Nat} (hj : j < l) : (sg t (j + 1)).k = 2 ∨ (sg t (j + 1)).k = 3 ∧ InC (cuOf ⟨(sg t j).x, (sg t j).y⟩ (sg t (j + 1))) :=
  inc_of (okay_in (h.ok j (by omega))) (h.ok (j + 1) (by omega)) (h.i (j + 1) (by omega) (by omega)).1 (h.i (j + 1) (by omega) (by omega)).2
theorem Sb.last (h : Sb t l cl) : ∀ d, d ≤ l → (gp t d).getLast? = some ⟨(sg t d).x, (sg t d).y⟩
  | 0, _ => rfl
  | d + 1, hd => by
    obtain ⟨h1, -, -⟩ := replP_last (h.seg (show d < l by omega))
    rw [gp, List.getLast?_append, h1]
    rfl
theorem Sb.flat (h : Sb t l cl) (A : List Ln) : ∀ d, d ≤ l → (t.take (d + 1)).foldl addL A = A ++ [⟨gp t d, false⟩]
  | 0, _ => by
    rw [take_sg (by have := h.n; omega), List.take_zero, List.nil_append]
    show addL A (sg t 0) = _
    rw [addL_move _ h.k0]
    rfl
  | d + 1, hd => by
    rw [take_sg (by have := h.n; omega), List.foldl_append, Sb.flat h A d (by omega)]
    show addL (A ++ [⟨gp t d, false⟩]) (sg t (d + 1)) = _
    rw [addL_last _ _ (h.i (d + 1) (by omega) hd).1]
    unfold updL
    rw [if_neg (h.i (d + 1) (by omega) hd).2, lastP_of (h.last d (by omega))]
    rfl
theorem Sb.whole (h : Sb t l cl) (A : List Ln) : t.foldl addL A = A ++ [⟨gp t l, cl⟩] := by
  cases cl with
  | false =>
    have := h.flat A l (Nat.le_refl _)
    rwa [List.take_of_length_le (by have := h.n; simp at this; omega)] at this
  | true =>
    have hl := h.n
    simp at hl
    have e : t = t.take (l + 1) ++ [sg t (l + 1)] := by rw [← take_sg (by omega), List.take_of_length_le (by omega)]
    have e2 : t.foldl addL A = (t.take (l + 1) ++ [sg t (l + 1)]).foldl addL A := congrArg (List.foldl addL A) e
    rw [e2, List.foldl_append, h.flat A l (Nat.le_refl _)]
    show addL (A ++ [⟨gp t l, false⟩]) (sg t (l + 1)) = _
    rw [addL_last _ _ (by rw [h.c rfl]; decide)]
    unfold updL
    rw [if_pos (h.c rfl)]
theorem replP_rev {p : P2} {s : Sg} (h : s.k = 2 ∨ s.k = 3 ∧ InC (cuOf p s)) : (p :: replP p s).reverse = (⟨s.x, s.y⟩ : P2) :: replP ⟨s.x, s.y⟩ ⟨s.k, p.x, p.y, s.u, s.v, s.w⟩ := by
  unfold replP
  rcases h with h | ⟨h, hc⟩
  · rw [if_pos h, if_pos h]; rfl
  · rw [if_neg (by omega), if_neg (by show ¬ s.k = 2; omega)]
    exact pts_rev (c := cuOf p s) hc.w
theorem Sb.back (h : Sb t l cl) (cl' : Bool) : ∀ j, j ≤ l → ∃ T, gp t l = gp t (l - j) ++ T ∧ ((⟨(sg t (l - j)).x, (sg t (l - j)).y⟩ : P2) :: T).reverse = gp (rS t l cl') j
  | 0, _ => ⟨[], by simp, by rw [gp, rS_zero]; rfl⟩
  | j + 1, hj => by
    obtain ⟨T, h1, h2⟩ := Sb.back h cl' j (by omega)
    have hs := h.seg (show l - j - 1 < l by omega)
    rw [show l - j - 1 + 1 = l - j by omega] at hs
    refine ⟨replP ⟨(sg t (l - j - 1)).x, (sg t (l - j - 1)).y⟩ (sg t (l - j)) ++ T, ?_, ?_⟩
    · rw [h1, show l - (j + 1) = l - j - 1 by omega, ← List.append_assoc]
      congr 1
      obtain ⟨m, hm⟩ : ∃ m, l - j = m + 1 := ⟨l - j - 1, by omega⟩
      rw [hm]
      rfl
    · obtain ⟨x, y⟩ := rS_x t l cl' (show j ≤ l by omega)
      rw [show l - (j + 1) = l - j - 1 by omega, ← List.cons_append, List.reverse_append, replP_rev hs, gp, ← h2, List.reverse_cons, rS_succ t l cl' (by omega), x, y]
      simp
theorem Sb.rev (h : Sb t l cl) : gp (rS t l cl) l = (gp t l).reverse := by
  obtain ⟨T, h1, h2⟩ := h.back cl l (Nat.le_refl _)
  rw [← h2, h1, Nat.sub_self]
  rfl
theorem Sb.turn (h : Sb t l cl) : Sb (rS t l cl) l cl := by
  refine ⟨(rS_length t l cl).symm, rfl, fun j h0 hj => ?_, fun hc => ?_, fun j hj => ?_⟩
  · obtain ⟨m, rfl⟩ : ∃ m, j = m + 1 := ⟨j - 1, by omega⟩
    rw [rS_succ t l cl (by omega)]
    exact h.i (l - m) (by omega) (by omega)
  · subst hc; rw [rS_last]
  · cases j with
    | zero => rw [rS_zero]; exact (h.ok l (Nat.le_refl _)).move
    | succ m =>
      rw [rS_succ t l cl (by omega)]
      exact (h.ok (l - m - 1) (by omega)).back (h.ok (l - m) (by omega)) (h.i (l - m) (by omega) (by omega)).1 (h.i (l - m) (by omega) (by omega)).2
end
theorem sub_sb {t : List Sg} (h : Sub t) : ∃ l cl, Sb t l cl ∧ revSub t 0 t.length = rS t l cl := by
  obtain ⟨l, cl, hl, hcl, hr, hin⟩ := sub_last h
  refine ⟨l, cl, ⟨hl, h.k0, hin, fun hc => ?_, fun j hj => h.ok j (by omega)⟩, hr⟩
  subst hc
  have := hcl.2 rfl
  simp at hl
  rwa [show t.length - 1 = l + 1 by omega] at this
theorem flat_parts {ss : List Sg} (hok : chk ss = 0) : ∀ (f i : Nat), i ≤ ss.length → ss.length ≤ i + f → (i < ss.length → (sg ss i).k = 1) →
    ∃ LS, (∀ A, (ss.drop i).foldl addL A = A ++ LS) ∧ (∀ A, (revFrom ss f i).foldl addL A = A ++ LS.map revLn)
  | 0, i, h, h', _ => ⟨[], fun A => by rw [List.drop_eq_nil_of_le (by omega)]; simp, fun A => by simp [revFrom]⟩
  | f + 1, i, h, h', hm => by
    rcases Nat.lt_or_ge i ss.length with hl | hl
    · have hg := ends_gt ss i
      have hle := ends_le hl
      have hsub := sub_of hok hl (hm hl)
      have hrt := revSub_t hok hl (hm hl)
      have hsplit : (ss.drop i).take (ends ss i - i) ++ ss.drop (ends ss i) = ss.drop i := by
        rw [show ss.drop (ends ss i) = (ss.drop i).drop (ends ss i - i) by rw [List.drop_drop, show i + (ends ss i - i) = ends ss i by omega], List.take_append_drop]
      obtain ⟨LS, i1, i2⟩ := flat_parts hok f (ends ss i) hle (by omega) (ends_move ss i)
      generalize (ss.drop i).take (ends ss i - i) = t at hsub hrt hsplit
      obtain ⟨l, cl, hs, hr⟩ := sub_sb hsub
      refine ⟨⟨gp t l, cl⟩ :: LS, fun A => ?_, fun A => ?_⟩
      · rw [← hsplit, List.foldl_append, hs.whole, i1]; simp
      · rw [show revFrom ss (f + 1) i = revSub ss i (ends ss i) ++ revFrom ss f (ends ss i) by rw [revFrom, if_pos hl], hrt, hr, List.foldl_append, hs.turn.whole, i2, hs.rev]
        simp [revLn]
    · exact ⟨[], fun A => by rw [List.drop_eq_nil_of_le hl]; simp, fun A => by rw [revFrom_end ss (f + 1) i hl]; simp⟩
theorem flatL_rev {ss : List Sg} (hok : chk ss = 0) : flatL (rev ss) = (flatL ss).map revLn := by
  obtain ⟨LS, h1, h2⟩ := flat_parts hok ss.length 0 (Nat.zero_le _) (by omega) (first_move hok)
  have e1 := h1 []
  have e2 := h2 []
  rw [List.drop_zero] at e1
  unfold flatL rev
  rw [e1, e2]
  simp

end Go.Proofs.Ytcdedefhofkbhaa
