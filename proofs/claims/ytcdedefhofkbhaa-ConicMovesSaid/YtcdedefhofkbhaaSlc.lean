/- Slices of segments that a function makes: literals, appended ones; and what Rectangle of package path returns. -/
import Derived.Test.YtcdedefhofkbhaaChk
import Derived.Laws.AppendOwn
import Derived.Laws.OwnMore
import Derived.OwnWalk
namespace Go.Proofs.Ytcdedefhofkbhaa
open Go Go.RowKit
set_option linter.unusedVariables false

/-- The cells of segments, one behind the other. -/
def flat (ss : List Sg) : List Value := ss.flatMap fun s => (cel s).toList
theorem flat_cons (s : Sg) (r : List Sg) : flat (s :: r) = (cel s).toList ++ flat r := rfl
theorem flat_append (a b : List Sg) : flat (a ++ b) = flat a ++ flat b := by simp [flat]
theorem flat_length : ∀ ss : List Sg, (flat ss).length = ss.length * 6
  | [] => rfl
  | s :: r => by rw [flat_cons, List.length_append, flat_length r]; simp; omega
theorem flat_get : ∀ (ss : List Sg) (i j : Nat) (s : Sg), ss[i]? = some s → j < 6 → (flat ss)[i * 6 + j]? = (cel s)[j]?
  | [], i, j, s, h, _ => by simp at h
  | g :: r, 0, j, s, h, hj => by
    obtain rfl : g = s := by simpa using h
    rw [flat_cons, List.getElem?_append_left (by simpa using by omega)]
    simp
  | g :: r, i + 1, j, s, h, hj => by
    have h' : r[i]? = some s := by simpa using h
    rw [flat_cons, List.getElem?_append_right (by simp; omega)]
    rw [show (i + 1) * 6 + j - (cel g).toList.length = i * 6 + j by simp; omega]
    exact flat_get r i j s h' hj

theorem segAt_of {w : World} {a : Addr} {s : Sg} (h : ∀ i, i < 6 → w.cell? (a.add i) = (cel s)[i]?) : SegAt w a s :=
  ⟨by have := h 0 (by omega); exact this, h 1 (by omega), h 2 (by omega), h 3 (by omega), h 4 (by omega), h 5 (by omega)⟩
/-- A block whose first cells are those of the segments. -/
theorem segs_block {w : World} {g : Nat} {ss : List Sg} (hg : g < w.heap.size) (h : ∀ j u, (flat ss)[j]? = some u → w.cell? ⟨g, j, none⟩ = some u) : Segs w (some ⟨g, 0, none⟩) ss := fun _ => ⟨_, rfl, hg, fun i s hs => segAt_of fun j hj => by
  have e : (⟨g, 0, none⟩ : Addr).add (i * 6) = ⟨g, i * 6, none⟩ := by unfold Addr.add; split <;> simp_all
  have e' : (⟨g, i * 6, none⟩ : Addr).add j = ⟨g, i * 6 + j, none⟩ := by unfold Addr.add; split <;> simp_all
  have h1 := flat_get ss i j s hs hj
  have h2 : (cel s)[j]? = some ((cel s)[j]'(by simpa using hj)) := Array.getElem?_eq_getElem _
  rw [e, e', h2]
  exact h _ _ (h1.trans h2)⟩
theorem Var.segs {w : World} {g : Nat} {ss : List Sg} {t : TypeId} (h : Var w g (flat ss).toArray t) : Segs w (some ⟨g, 0, none⟩) ss := segs_block h.lt fun j u hu => by
  rw [h.cell]
  simpa using hu
theorem own_segs {w : World} {B n : Nat} {v : Value} {ss : List Sg} (h : w.ownsRow B 25 6 v n (flat ss)) : ∃ A c, v = .slice A n c ∧ n = ss.length ∧ Segs w A ss := by
  have hl : n = ss.length := by have := h.1; rw [flat_length] at this; omega
  rcases h.2 with ⟨rfl, h0⟩ | ⟨g, cap, cur, rfl, hB, hg, hnc, hcm, hcs, htake⟩
  · subst h0
    have : ss = [] := List.eq_nil_of_length_eq_zero hl.symm
    subst this
    exact ⟨none, 0, rfl, rfl, Segs.nil _ _⟩
  · refine ⟨some ⟨g, 0, none⟩, cap, rfl, hl, segs_block (Array.getElem?_eq_some_iff.1 hg).1 fun j u hu => ?_⟩
    have := h.cells (g := g) rfl j u hu
    rwa [show (⟨g, 0, none⟩ : Addr).add j = ⟨g, j, none⟩ by unfold Addr.add; split <;> simp_all] at this

/-! ### Rectangle -/
def rectE (x0 y0 x1 y1 : Int) : Int := if ¬ Wi 32767 [x0, y0, x1, y1] then 3 else if x1 ≤ x0 ∨ y1 ≤ y0 then 18 else 0
def rectP (x0 y0 x1 y1 : Int) : List Sg := [⟨1, x0, y0, 0, 0, 0⟩, ⟨2, x1, y0, 0, 0, 0⟩, ⟨2, x1, y1, 0, 0, 0⟩, ⟨2, x0, y1, 0, 0, 0⟩, ⟨4, 0, 0, 0, 0, 0⟩]
def rectS (x0 y0 x1 y1 : Int) : List Sg := if rectE x0 y0 x1 y1 = 0 then rectP x0 y0 x1 y1 else []

end Go.Proofs.Ytcdedefhofkbhaa
