/- What turns and known return: true. -/
import Derived.Test.YtdjjijkdalpggaaSame
namespace Go.Proofs.Ytdjjijkdalpggaa
open Go Go.RowKit
set_option linter.unusedVariables false

def six (i : Nat) : Int := i + 1
def six' (i : Nat) : Int := [4, 1, 5, 2, 6, 3].getD i 0

theorem six_px (w : World) : Px (w.alloc (.cells #[.int .u8 1, .int .u8 2, .int .u8 3, .int .u8 4, .int .u8 5, .int .u8 6] 5)) w.heap.size 0 6 six := by
  intro i hi
  rw [World.cell?_alloc_at _ _ _ _ rfl]
  match i, hi with
  | 0, _ => rfl
  | 1, _ => rfl
  | 2, _ => rfl
  | 3, _ => rfl
  | 4, _ => rfl
  | 5, _ => rfl
theorem six_px' (w : World) (b : Nat) (hb : b = w.heap.size) : Px (w.alloc (.cells #[.int .u8 4, .int .u8 1, .int .u8 5, .int .u8 2, .int .u8 6, .int .u8 3] 5)) b 0 6 six' := by
  intro i hi
  subst hb
  rw [World.cell?_alloc_at _ _ _ _ rfl]
  match i, hi with
  | 0, _ => rfl
  | 1, _ => rfl
  | 2, _ => rfl
  | 3, _ => rfl
  | 4, _ => rfl
  | 5, _ => rfl

theorem six_turned (i : Nat) (hi : i < 6) : flat 2 (fun x y => six ((2 - 1 - x) * 3 + y)) i = six' i := by
  match i, hi with
  | 0, _ => rfl
  | 1, _ => rfl
  | 2, _ => rfl
  | 3, _ => rfl
  | 4, _ => rfl
  | 5, _ => rfl

theorem turn_six (g c : Nat) (w : World) (hp : Px w g 0 6 six) (hg : g < w.heap.size) : Calls Try.prog 15 #[grid 3 2 (.slice (some ⟨g, 0, none⟩) 6 c), .int .i64 1] w (OkGrid 2 3 6 six' w) :=
  Calls.mono (turn1 3 2 1 g 6 c six w hp (by omega) (by omega) rfl hg (by decide)) fun _ _ h => h.congr six_turned

theorem turns_any (w : World) : Calls Try.prog 12 #[] w fun e w' => e = .returned (.bool true) ∧ Below w.heap.size w w' := by
  go_enter Try.func12, Try.ntmps12
  go_wp2_with fail
  (with_reducible refine (turn_six _ _ _ (six_px _) (by simp)).mono ?_)
  rintro e w1 ⟨g, c, rfl, ho, hb⟩
  have HO := hid ho
  go_wp2_with fail
  (with_reducible refine (same_yes _ _ g c _ _ 6 six' _ ?_ ?_ (by omega) ?_ ?_).mono ?_)
  · exact ((HO.out.alloc _).alloc _).px
  · exact six_px' _ _ (by simp)
  · have := HO.out.lt.2; simp; omega
  · simp
  rintro e w2 ⟨rfl, hb2⟩
  go_wp2
  go_ret
  have h1 : Below w.heap.size w w1 := below_next (by repeat first | exact Below.refl _ _ | apply Below.drew | apply below_alloc) hb
  exact ⟨rfl, below_next (by repeat first | exact h1 | apply Below.drew | apply below_alloc) hb2⟩

theorem known_any (w : World) : Calls Try.prog 23 #[] w fun e w' => e = .returned (.bool true) ∧ Below w.heap.size w w' := by
  go_enter Try.func23, Try.ntmps23
  go_wp2_with fail
  (with_reducible refine (turn_six _ _ _ (six_px _) (by simp)).mono ?_)
  rintro e w1 ⟨g, c, rfl, ho, hb⟩
  have HO := hid ho
  go_wp2_with fail
  (with_reducible refine (bytes_yes g 0 c _ 0 _ 6 six' _ ?_ ?_ (by omega)).mono ?_)
  · exact ((HO.out.alloc _).alloc _).px
  · exact six_px' _ _ (by simp)
  rintro e w2 ⟨rfl, hb2⟩
  go_wp2
  go_ret
  have h1 : Below w.heap.size w w1 := below_next (by repeat first | exact Below.refl _ _ | apply Below.drew | apply below_alloc) hb
  exact ⟨rfl, below_next (by repeat first | exact h1 | apply Below.drew | apply below_alloc) hb2⟩

end Go.Proofs.Ytdjjijkdalpggaa
