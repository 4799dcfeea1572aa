/- What Quarter returns. -/
import Derived.Test.YtdelhelfphblcaaRef
namespace Go.Proofs.Ytdelhelfphblcaa
open Go Go.RowKit
set_option linter.unusedVariables false

theorem and3 (k : Int) (h : -18 ≤ k ∧ k ≤ 18) : bits .and .i64 k 3 = k % 4 := by
  have H : ∀ n : Fin 37, bits .and .i64 ((n.val : Int) - 18) 3 = ((n.val : Int) - 18) % 4 := by decide +kernel
  have := H ⟨(k + 18).toNat, by omega⟩
  rwa [show (((k + 18).toNat : Nat) : Int) - 18 = k by omega] at this

/-- The turn by r quarters. -/
def Turn (r : Int) (V : Value) : Prop := (r = 0 ∧ V = mx 4096 0 0 4096 0 0) ∨ (r = 1 ∧ V = mx 0 4096 (-4096) 0 0 0) ∨ (r = 2 ∧ V = mx (-4096) 0 0 (-4096) 0 0) ∨ (r = 3 ∧ V = mx 0 (-4096) 4096 0 0 0)

theorem quarter_at (k r : Int) (V : Value) (w : World) (hk : bits .and .i64 k 3 = r) (hV : Turn r V) :
    Calls Try.prog 16 #[.int .i64 k] w fun e w' => e = .returned V ∧ Below w.heap.size w w' := by
  have HV := hid (Var.new w #[.int .i64 0, .int .i64 0, .int .i64 0, .int .i64 0, .int .i64 0, .int .i64 0] 23 _ rfl)
  have HB := hid (below_alloc (Below.refl _ w) (.cells #[.int .i64 0, .int .i64 0, .int .i64 0, .int .i64 0, .int .i64 0, .int .i64 0] 23))
  rcases hV with ⟨rfl, rfl⟩ | ⟨rfl, rfl⟩ | ⟨rfl, rfl⟩ | ⟨rfl, rfl⟩
  · go_enter Try.func16, Try.ntmps16
    go_upto_region 1 with fail
    generalize hw : w.alloc (.cells #[.int .i64 0, .int .i64 0, .int .i64 0, .int .i64 0, .int .i64 0, .int .i64 0] 23) = w1 at HV HB
    clear hw
    go_wp2_with fail
    (with_reducible refine (ident_any _).mono ?_); rintro x w2 ⟨rfl, hb⟩
    have HV2 := hid (HV.out.next hb)
    have HB2 := hid (below_next HB.out hb)
    clear hb HV HB
    obtain ⟨p0, p1, p2, p3, p4, p5, pf⟩ := HV2.out.read6
    go_wp2_with fail
    exact ret6 Try.results16 rfl HV2.out.set6 ⟨rfl, below_set6 HB2.out (by omega)⟩
  · go_enter Try.func16, Try.ntmps16
    go_upto_region 1 with fail
    generalize hw : w.alloc (.cells #[.int .i64 0, .int .i64 0, .int .i64 0, .int .i64 0, .int .i64 0, .int .i64 0] 23) = w1 at HV HB
    clear hw
    obtain ⟨p0, p1, p2, p3, p4, p5, pf⟩ := HV.out.read6
    go_wp2_with fail
    exact ret6 Try.results16 rfl HV.out.set6 ⟨rfl, below_set6 HB.out (by omega)⟩
  · go_enter Try.func16, Try.ntmps16
    go_upto_region 1 with fail
    generalize hw : w.alloc (.cells #[.int .i64 0, .int .i64 0, .int .i64 0, .int .i64 0, .int .i64 0, .int .i64 0] 23) = w1 at HV HB
    clear hw
    obtain ⟨p0, p1, p2, p3, p4, p5, pf⟩ := HV.out.read6
    go_wp2_with fail
    exact ret6 Try.results16 rfl HV.out.set6 ⟨rfl, below_set6 HB.out (by omega)⟩
  · go_enter Try.func16, Try.ntmps16
    go_upto_region 1 with fail
    generalize hw : w.alloc (.cells #[.int .i64 0, .int .i64 0, .int .i64 0, .int .i64 0, .int .i64 0, .int .i64 0] 23) = w1 at HV HB
    clear hw
    obtain ⟨p0, p1, p2, p3, p4, p5, pf⟩ := HV.out.read6
    go_wp2_with fail
    exact ret6 Try.results16 rfl HV.out.set6 ⟨rfl, below_set6 HB.out (by omega)⟩

theorem quarter_any (k : Int) (V : Value) (w : World) (h : -18 ≤ k ∧ k ≤ 18) (hV : Turn (k % 4) V) :
    Calls Try.prog 16 #[.int .i64 k] w fun e w' => e = .returned V ∧ Below w.heap.size w w' := quarter_at k _ V w (and3 k h) hV

end Go.Proofs.Ytdelhelfphblcaa
