/- Slices of segments that a function makes: literals, appended ones; and what Rectangle of package path returns. -/
import Derived.Test.YtijkoaggcmgjiabDoorChk
import Derived.Laws.AppendOwn
import Derived.Laws.OwnMore
import Derived.OwnWalk
namespace Go.Proofs.YtijkoaggcmgjiabDoor
open Go Go.RowKit
set_option linter.unusedVariables false

/-- The cells of segments, one behind the other. -/
def flat (ss : List Sg) : List Value := ss.flatMap fun s => (cel s).toList
theorem flat_cons (s : Sg) (r : List Sg) : flat (s :: r) = (cel s).toList ++ flat r := rfl
theorem flat_append (a b : List Sg) : flat (a ++ b) = flat a ++ flat b := by simp [flat]
theorem flat_length : ∀ ss : List Sg, (flat ss).length = ss.length * 6
  | [] => rfl
  | s :: r => by rw [flat_cons, List.length_append, flat_length r]; simp; omega
theorem flat_get : ∀ (ss : List Sg) (i j : Nat) (s : Sg), ss[i]? = some s → j < 6 → (flat ss)[i * 6 + j]? = (cel s)[j]?
  | [], i, j, s, h, _ => by simp at h
  | g :: r, 0, j, s, h, hj => by
    obtain rfl : g = s := by simpa using h
    rw [flat_cons, List.getElem?_append_left (by simpa using by omega)]
    simp
  | g :: r, i + 1, j, s, h, hj => by
    have h' : r[i]? = some s := by simpa using h
    rw [flat_cons, List.getElem?_append_right (by simp; omega)]
    rw [show (i + 1) * 6 + j - (cel g).toList.length = i * 6 + j by simp; omega]
    exact flat_get r i j s h' hj

theorem segAt_of {w : World} {a : Addr} {s : Sg} (h : ∀ i, i < 6 → w.cell? (a.add i) = (cel s)[i]?) : SegAt w a s :=
  ⟨by have := h 0 (by omega); exact this, h 1 (by omega), h 2 (by omega), h 3 (by omega), h 4 (by omega), h 5 (by omega)⟩
/-- A block whose first cells are those of the segments. -/
theorem segs_block {w : World} {g : Nat} {ss : List Sg} (hg : g < w.heap.size) (h : ∀ j u, (flat ss)[j]? = some u → w.cell? ⟨g, j, none⟩ = some u) : Segs w (some ⟨g, 0, none⟩) ss := fun _ => ⟨_, rfl, hg, fun i s hs => segAt_of fun j hj => by
  have e : (⟨g, 0, none⟩ : Addr).add (i * 6) = ⟨g, i * 6, none⟩ := by unfold Addr.add; split <;> simp_all
  have e' : (⟨g, i * 6, none⟩ : Addr).add j = ⟨g, i * 6 + j, none⟩ := by unfold Addr.add; split <;> simp_all
  have h1 := flat_get ss i j s hs hj
  have h2 : (cel s)[j]? = some ((cel s)[j]'(by simpa using hj)) := Array.getElem?_eq_getElem _
  rw [e, e', h2]
  exact h _ _ (h1.trans h2)⟩
theorem Var.segs {w : World} {g : Nat} {ss : List Sg} {t : TypeId} (h : Var w g (flat ss).toArray t) : Segs w (some ⟨g, 0, none⟩) ss := segs_block h.lt fun j u hu => by
  rw [h.cell]
  simpa using hu
theorem own_segs {w : World} {B n : Nat} {v : Value} {ss : List Sg} (h : w.ownsRow B 38 6 v n (flat ss)) : ∃ A c, v = .slice A n c ∧ n = ss.length ∧ Segs w A ss := by
  have hl : n = ss.length := by have := h.1; rw [flat_length] at this; omega
  rcases h.2 with ⟨rfl, h0⟩ | ⟨g, cap, cur, rfl, hB, hg, hnc, hcm, hcs, htake⟩
  · subst h0
    have : ss = [] := List.eq_nil_of_length_eq_zero hl.symm
    subst this
    exact ⟨none, 0, rfl, rfl, Segs.nil _ _⟩
  · refine ⟨some ⟨g, 0, none⟩, cap, rfl, hl, segs_block (Array.getElem?_eq_some_iff.1 hg).1 fun j u hu => ?_⟩
    have := h.cells (g := g) rfl j u hu
    rwa [show (⟨g, 0, none⟩ : Addr).add j = ⟨g, j, none⟩ by unfold Addr.add; split <;> simp_all] at this

/-! ### Rectangle -/
def rectE (x0 y0 x1 y1 : Int) : Int := if ¬ Wi 32767 [x0, y0, x1, y1] then 3 else if x1 ≤ x0 ∨ y1 ≤ y0 then 18 else 0
def rectP (x0 y0 x1 y1 : Int) : List Sg := [⟨1, x0, y0, 0, 0, 0⟩, ⟨2, x1, y0, 0, 0, 0⟩, ⟨2, x1, y1, 0, 0, 0⟩, ⟨2, x0, y1, 0, 0, 0⟩, ⟨4, 0, 0, 0, 0, 0⟩]
def rectS (x0 y0 x1 y1 : Int) : List Sg := if rectE x0 y0 x1 y1 = 0 then rectP x0 y0 x1 y1 else []

theorem rect_range (x0 y0 x1 y1 : Int) (w : World) (h : ¬ Wi 32767 [x0, y0, x1, y1]) :
    Calls Tryd.prog 11 #[.int .i64 x0, .int .i64 y0, .int .i64 x1, .int .i64 y1] w fun e w' => e = .returned (.tuple #[.slice none 0 0, .int .i64 3]) ∧ Below w.heap.size w w' := by
  have HW := hid (within_any 32767 [x0, y0, x1, y1] w.heap.size 0 4 4 _ (by omega) (by simp) rfl (Var.new w #[.int .i64 x0, .int .i64 y0, .int .i64 x1, .int .i64 y1] 3 _ rfl).lies4)
  rw [decide_eq_false h] at HW
  clear h
  go_enter Tryd.func11, Tryd.ntmps11
  go_wp2_with fail
  (with_reducible refine HW.out.mono ?_); rintro e w1 ⟨rfl, hw⟩
  have HB := hid (show Below w.heap.size w w1 by rw [← hw]; exact below_alloc (Below.refl _ w) _)
  clear hw
  go_wp2_with fail
  go_ret2
  exact ⟨rfl, HB.out⟩
theorem rect_order (x0 y0 x1 y1 : Int) (w : World) (h : Wi 32767 [x0, y0, x1, y1]) (ho : x1 ≤ x0 ∨ y1 ≤ y0) :
    Calls Tryd.prog 11 #[.int .i64 x0, .int .i64 y0, .int .i64 x1, .int .i64 y1] w fun e w' => e = .returned (.tuple #[.slice none 0 0, .int .i64 18]) ∧ Below w.heap.size w w' := by
  have HW := hid (within_any 32767 [x0, y0, x1, y1] w.heap.size 0 4 4 _ (by omega) (by simp) rfl (Var.new w #[.int .i64 x0, .int .i64 y0, .int .i64 x1, .int .i64 y1] 3 _ rfl).lies4)
  rw [decide_eq_true h] at HW
  clear h
  by_cases h1 : x1 ≤ x0
  · clear ho
    go_enter Tryd.func11, Tryd.ntmps11
    go_wp2_with fail
    (with_reducible refine HW.out.mono ?_); rintro e w1 ⟨rfl, hw⟩
    have HB := hid (show Below w.heap.size w w1 by rw [← hw]; exact below_alloc (Below.refl _ w) _)
    clear hw
    go_wp2_with fail
    go_ret2
    exact ⟨rfl, HB.out⟩
  · have h2 : y1 ≤ y0 := by omega
    have h3 : x0 < x1 := by omega
    clear ho h1
    go_enter Tryd.func11, Tryd.ntmps11
    go_wp2_with fail
    (with_reducible refine HW.out.mono ?_); rintro e w1 ⟨rfl, hw⟩
    have HB := hid (show Below w.heap.size w w1 by rw [← hw]; exact below_alloc (Below.refl _ w) _)
    clear hw
    go_wp2_with fail
    go_ret2
    exact ⟨rfl, HB.out⟩
theorem rect_good (x0 y0 x1 y1 : Int) (w : World) (h : Wi 32767 [x0, y0, x1, y1]) (h1 : x0 < x1) (h2 : y0 < y1) :
    Calls Tryd.prog 11 #[.int .i64 x0, .int .i64 y0, .int .i64 x1, .int .i64 y1] w fun e w' => (∃ g, e = .returned (.tuple #[.slice (some ⟨g, 0, none⟩) 5 5, .int .i64 0]) ∧ Segs w' (some ⟨g, 0, none⟩) (rectP x0 y0 x1 y1)) ∧ Below w.heap.size w w' := by
  have HW := hid (within_any 32767 [x0, y0, x1, y1] w.heap.size 0 4 4 _ (by omega) (by simp) rfl (Var.new w #[.int .i64 x0, .int .i64 y0, .int .i64 x1, .int .i64 y1] 3 _ rfl).lies4)
  rw [decide_eq_true h] at HW
  clear h
  go_enter Tryd.func11, Tryd.ntmps11
  go_wp2_with fail
  (with_reducible refine HW.out.mono ?_); rintro e w1 ⟨rfl, hw⟩
  have HB := hid (show Below w.heap.size w w1 by rw [← hw]; exact below_alloc (Below.refl _ w) _)
  clear hw
  go_wp2_with fail
  go_ret2
  exact ⟨⟨_, rfl, Var.segs (Var.new w1 (flat (rectP x0 y0 x1 y1)).toArray 38 _ rfl)⟩, HB.out.alloc HB.out.size _⟩
theorem rect_any (x0 y0 x1 y1 : Int) (w : World) :
    Calls Tryd.prog 11 #[.int .i64 x0, .int .i64 y0, .int .i64 x1, .int .i64 y1] w fun e w' => (∃ A n c, e = .returned (.tuple #[.slice A n c, .int .i64 (rectE x0 y0 x1 y1)]) ∧ n = (rectS x0 y0 x1 y1).length ∧ Segs w' A (rectS x0 y0 x1 y1)) ∧ Below w.heap.size w w' := by
  by_cases h : Wi 32767 [x0, y0, x1, y1]
  · by_cases ho : x1 ≤ x0 ∨ y1 ≤ y0
    · have e : rectE x0 y0 x1 y1 = 18 := by unfold rectE; rw [if_neg (fun k => k h), if_pos ho]
      rw [show rectS x0 y0 x1 y1 = [] by unfold rectS; rw [e]; rfl, e]
      exact (rect_order x0 y0 x1 y1 w h ho).mono fun e w' ⟨he, hb⟩ => ⟨⟨_, _, _, he, rfl, Segs.nil _ _⟩, hb⟩
    · have e : rectE x0 y0 x1 y1 = 0 := by unfold rectE; rw [if_neg (fun k => k h), if_neg ho]
      rw [show rectS x0 y0 x1 y1 = rectP x0 y0 x1 y1 by unfold rectS; rw [if_pos e], e]
      exact (rect_good x0 y0 x1 y1 w h (by omega) (by omega)).mono fun e w' ⟨⟨g, he, hs⟩, hb⟩ => ⟨⟨_, _, _, he, rfl, hs⟩, hb⟩
  · have e : rectE x0 y0 x1 y1 = 3 := by unfold rectE; rw [if_pos h]
    rw [show rectS x0 y0 x1 y1 = [] by unfold rectS; rw [e]; rfl, e]
    exact (rect_range x0 y0 x1 y1 w h).mono fun e w' ⟨he, hb⟩ => ⟨⟨_, _, _, he, rfl, Segs.nil _ _⟩, hb⟩

end Go.Proofs.YtijkoaggcmgjiabDoor
