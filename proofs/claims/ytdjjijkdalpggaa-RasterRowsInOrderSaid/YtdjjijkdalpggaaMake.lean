/- What Make and Map return. -/
import Derived.Test.YtdjjijkdalpggaaTurn
namespace Go.Proofs.Ytdjjijkdalpggaa
open Go Go.RowKit
set_option linter.unusedVariables false

theorem make_gives (W H b : Nat) (v : Int) (w : World) (hc : w.cell? ⟨b, 0, none⟩ = some (.int .u8 v)) (hb : b < w.heap.size) :
    Gives 46 #[.pointer (some ⟨b, 0, none⟩)] W H (fun _ _ => v) w := by
  intro w1 x y hbw hx hy
  have hc1 : w1.cell? ⟨b, 0, none⟩ = some (.int .u8 v) := (hbw.cell (p := ⟨b, 0, none⟩) hb).trans hc
  clear hc
  go_enter Try.func46, Try.ntmps46
  go_wp2
  go_ret
  exact ⟨rfl, Below.refl _ _⟩

/-- An error. -/
def NoGrid (e0 : Int) (w : World) (e : Ending) (w' : World) : Prop :=
  e = .returned (.tuple #[grid 0 0 (.slice none 0 0), .int .i64 e0]) ∧ Below w.heap.size w w'

set_option maxHeartbeats 1000000 in
theorem make_ok (W H : Nat) (v : Int) (w : World) (hW : 1 ≤ W ∧ W ≤ 1024) (hH : 1 ≤ H ∧ H ≤ 1024) :
    Calls Try.prog 20 #[.int .i64 W, .int .i64 H, .int .u8 v] w (OkGrid W H (W * H) (fun _ => v) w) := by
  have b1 : btwB (W : Int) 1 1024 = true := btw_yes (by omega)
  have b2 : btwB (H : Int) 1 1024 = true := btw_yes (by omega)
  go_enter Try.func20, Try.ntmps20
  go_wp2_with (first
    | (go_at_call 45; (with_reducible refine (side_any _ _).mono ?_); rintro e w' ⟨rfl, rfl⟩))
  (with_reducible refine (build_any 46 _ W H (fun _ _ => v) _ (enters_of Try.func46 (by kernel_rfl) rfl) (make_gives W H w.heap.size v _ ?_ ?_) hW hH).mono ?_)
  · simp [go_sem]
  · first | omega | (simp; done) | (simp; omega)
  rintro e w3 ⟨g3, c3, rfl, hown, hb3⟩
  obtain ⟨hc3, hf3⟩ := bcell hb3
  go_wp2
  refine bodyPost_ret (v := .tuple #[grid W H (.slice (some ⟨g3, 0, none⟩) (W * H) c3), .int .i64 0]) (by simp [results, Try.results20, go_sem, *]) rfl ⟨g3, c3, rfl, ?_, ?_⟩
  · exact ((hown.far3 (by have := hown.lt.1; simp at this; omega)).mono (by simp; omega)).congr (fun _ _ => rfl)
  · exact below3 (by repeat first | exact Below.refl _ _ | apply Below.drew | apply below_alloc) hb3 (by omega)

theorem make_range (W H : Int) (v : Int) (w : World) (h : ¬ ((1 ≤ W ∧ W ≤ 1024) ∧ (1 ≤ H ∧ H ≤ 1024))) :
    Calls Try.prog 20 #[.int .i64 W, .int .i64 H, .int .u8 v] w (NoGrid 3 w) := by
  by_cases h1 : 1 ≤ W ∧ W ≤ 1024
  · have b1 := btw_yes h1
    have b2 := btw_no (fun k => h ⟨h1, k⟩)
    clear h h1
    go_enter Try.func20, Try.ntmps20
    go_wp2_with (go_at_call 45; (with_reducible refine (side_any _ _).mono ?_); rintro e w' ⟨rfl, rfl⟩)
    refine bodyPost_ret (v := .tuple #[grid 0 0 (.slice none 0 0), .int .i64 3]) (by simp [results, Try.results20, go_sem]) rfl ⟨rfl, ?_⟩
    repeat first | exact Below.refl _ _ | apply Below.drew | apply below_alloc
  · have b1 := btw_no h1
    clear h h1
    go_enter Try.func20, Try.ntmps20
    go_wp2_with (go_at_call 45; (with_reducible refine (side_any _ _).mono ?_); rintro e w' ⟨rfl, rfl⟩)
    refine bodyPost_ret (v := .tuple #[grid 0 0 (.slice none 0 0), .int .i64 3]) (by simp [results, Try.results20, go_sem]) rfl ⟨rfl, ?_⟩
    repeat first | exact Below.refl _ _ | apply Below.drew | apply below_alloc

end Go.Proofs.Ytdjjijkdalpggaa
