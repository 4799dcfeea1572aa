/- A region that is shifted and shifted back. -/
import Derived.Test.YtepnpnidbpaimaaArea
import Derived.Test.YtepnpnidbpaimaaNear
import Derived.Test.YtepnpnidbpaimaaShift
namespace Go.Proofs.Ytepnpnidbpaimaa
open Go Go.RowKit
set_option linter.unusedVariables false

def mv (dx dy : Int) (r : Rn) : Rn := ⟨r.y + dy, r.a + dx, r.b + dx⟩
def Fit (dx dy : Int) (r : Rn) : Prop := (-8192 ≤ r.y + dy ∧ r.y + dy ≤ 8191) ∧ -8192 ≤ r.a + dx ∧ r.b + dx ≤ 8192 ∧ r.a < r.b
theorem shiftL_fit {dx dy : Int} : ∀ {ss : List Rn}, (∀ r ∈ ss, Fit dx dy r) → shiftL dx dy ss = ss.map (mv dx dy)
  | [], _ => rfl
  | r :: ss, h => by
    have hr := h r (by simp)
    have ih := shiftL_fit (fun s hs => h s (List.mem_cons_of_mem _ hs))
    unfold Fit at hr
    have h1 : mvOk dx dy r = true := by unfold mvOk; rw [decide_eq_true_eq]; omega
    have h2 : mvRn dx dy r = mv dx dy r := Rn.ext' ⟨rfl, by show max (r.a + dx) (-8192) = r.a + dx; omega, by show min (r.b + dx) 8192 = r.b + dx; omega⟩
    unfold shiftL at ih ⊢
    rw [List.filter_cons_of_pos h1, List.map_cons, List.map_cons, ih, h2]
theorem chk_mv {dx dy : Int} : ∀ {ss : List Rn} {p : Option Rn}, chkAll p ss = 0 → (∀ r ∈ ss, Fit dx dy r) → chkAll (p.map (mv dx dy)) (ss.map (mv dx dy)) = 0
  | [], _, _, _ => rfl
  | r :: ss, p, hc, h => by
    obtain ⟨h1, h2, h3⟩ := chkAll_cons.1 hc
    have hr := h r (by simp)
    have ih := chk_mv h3 (fun s hs => h s (List.mem_cons_of_mem _ hs))
    rw [List.map_cons]
    refine chkAll_cons.2 ⟨?_, ?_, ih⟩
    · unfold Fit at hr; unfold RnOk RnIn mv; simp only; omega
    · cases p with
      | none => trivial
      | some l =>
        have h2' : Bh r l := h2
        show Bh (mv dx dy r) (mv dx dy l)
        unfold Bh mv at *
        simp only
        omega
theorem areaL_mv (dx dy : Int) : ∀ ss : List Rn, areaL (ss.map (mv dx dy)) = areaL ss
  | [] => rfl
  | r :: ss => by
    rw [List.map_cons, areaL, areaL, areaL_mv dx dy ss]
    show r.b + dx - (r.a + dx) + _ = _
    omega
theorem mv_back (dx dy : Int) (ss : List Rn) : (ss.map (mv dx dy)).map (mv (-dx) (-dy)) = ss := by
  rw [List.map_map]
  refine (List.map_congr_left fun r _ => ?_).trans (List.map_id ss)
  exact Rn.ext' ⟨by show r.y + dy + -dy = r.y; omega, by show r.a + dx + -dx = r.a; omega, by show r.b + dx + -dx = r.b; omega⟩
theorem sq_runs {ps : List P2} {rs : List Rn} {m : Int} (h : Made ps rs) (hs : InSq m ps) : ∀ r ∈ rs, RnOk r ∧ (-m ≤ r.a ∧ r.b ≤ m + 1) ∧ -m ≤ r.y ∧ r.y ≤ m := fun r hr => by
  have ho := (chk_all h.ok).1 r hr
  have hl := ho.2
  have c1 : (⟨r.a, r.y⟩ : P2) ∈ ps := of_decide_eq_true ((h.has r.a r.y).symm.trans (has_iff.2 ⟨r, hr, rfl, Int.le_refl _, hl⟩))
  have c2 : (⟨r.b - 1, r.y⟩ : P2) ∈ ps := of_decide_eq_true ((h.has (r.b - 1) r.y).symm.trans (has_iff.2 ⟨r, hr, rfl, by omega, by omega⟩))
  have h1 := hs _ c1
  have h2 := hs _ c2
  simp only at h1 h2
  exact ⟨ho, by omega, by omega⟩
/-- What shifting back leans on. -/
structure Bk (dx dy : Int) (rs : List Rn) : Prop where
  s1 : shiftL dx dy rs = rs.map (mv dx dy)
  c1 : chk (rs.map (mv dx dy)) = 0
  s2 : shiftL (-dx) (-dy) (rs.map (mv dx dy)) = rs
theorem bk {dx dy : Int} {ps : List P2} {rs : List Rn} (h : Made ps rs) (hs : InSq 100 ps) (hx : -8000 ≤ dx ∧ dx ≤ 8000) (hy : -8000 ≤ dy ∧ dy ≤ 8000) : Bk dx dy rs := by
  have hr := sq_runs h hs
  have f1 : ∀ r ∈ rs, Fit dx dy r := fun r h => by have := hr r h; unfold RnOk at this; unfold Fit; omega
  have f2 : ∀ r ∈ rs.map (mv dx dy), Fit (-dx) (-dy) r := fun r h => by
    obtain ⟨s, hs, rfl⟩ := List.mem_map.1 h
    have := hr s hs
    unfold RnOk at this; unfold Fit mv; simp only; omega
  exact ⟨shiftL_fit f1, chk_mv (p := none) h.ok f1, (shiftL_fit f2).trans (mv_back dx dy rs)⟩

end Go.Proofs.Ytepnpnidbpaimaa
