/- The least and the greatest coordinates of points, without a program. -/
import Derived.Test.YtbdpjdhnmllkiaaDoorPts
import Derived.Test.YtbdpjdhnmllkiaaDoorAppR
namespace Go.Proofs.YtbdpjdhnmllkiaaDoor
open Go Go.RowKit
set_option linter.unusedVariables false
set_option linter.unusedSimpArgs false

/-- The least and the greatest coordinates so far. -/
structure Bx where
  a : Int
  b : Int
  c : Int
  d : Int
def Bx.add (k : Bx) (p : Int × Int) : Bx := ⟨min k.a p.1, min k.b p.2, max k.c p.1, max k.d p.2⟩
def Bx.all (k : Bx) (ps : List (Int × Int)) : Bx := ps.foldl Bx.add k
def bnds (ss : List Sg) : Bx := (⟨(sg ss 0).x, (sg ss 0).y, (sg ss 0).x, (sg ss 0).y⟩ : Bx).all (ss.flatMap pts)

theorem Bx.ext' {k l : Bx} (h : k.a = l.a ∧ k.b = l.b ∧ k.c = l.c ∧ k.d = l.d) : k = l := by
  cases k; cases l; simp at h; simp [h]
theorem Bx.add_comm (k : Bx) (p q : Int × Int) : (k.add p).add q = (k.add q).add p := by
  refine Bx.ext' ⟨?_, ?_, ?_, ?_⟩ <;> simp only [Bx.add] <;> omega
theorem all_perm {a b : List (Int × Int)} (h : a.Perm b) (k : Bx) : k.all a = k.all b :=
  List.Perm.foldl_eq' h (fun p _ q _ z => Bx.add_comm z p q) k
/-- Ahead of all points: beyond what coordinates can be. -/
def Bx.far : Bx := ⟨1048576, 1048576, -1048576, -1048576⟩
theorem bnds_far {ss : List Sg} (hok : chk ss = 0) (hl : 0 < ss.length) : bnds ss = Bx.far.all (ss.flatMap pts) := by
  have hk := first_move hok hl
  have h0 := (okay_of (sg_okay hok hl)).1
  have hr := wi4.1 h0.r
  obtain ⟨s, r, rfl⟩ : ∃ s r, ss = s :: r := by cases ss with
    | nil => simp at hl
    | cons s r => exact ⟨s, r, rfl⟩
  have e : sg (s :: r) 0 = s := rfl
  rw [e] at hk hr
  unfold bnds
  rw [e, List.flatMap_cons]
  have hp : pts s = [(s.x, s.y)] := by unfold pts; rw [if_neg (by omega), if_neg (by omega)]
  rw [hp, List.singleton_append]
  show Bx.all (Bx.add _ _) _ = Bx.all (Bx.add _ _) _
  congr 1
  refine Bx.ext' ⟨?_, ?_, ?_, ?_⟩ <;> simp only [Bx.add, Bx.far] <;> omega

end Go.Proofs.YtbdpjdhnmllkiaaDoor
