/- slices.Reverse of points that the call owns, by the kit's contract at this program. -/
import Derived.Test.YtldbpabnfjnpbaaShelfC
import Derived.Test.YtldbpabnfjnpbaaSort
namespace Go.Proofs.Ytldbpabnfjnpbaa
open Go Go.RowKit
set_option linter.unusedVariables false

theorem below_rev {B : Nat} {w : World} {g n : Nat} {d : Array P2} (hB : B ≤ w.heap.size) (hg : B ≤ g) : Below B w (Sort.putRowK encP 2 (Sort.ahead w n) g 0 d) := by
  unfold Sort.putRowK
  exact Lib.below_putRow (enc := id) (q := n) (d := Sort.flatK encP 2 d) (Below.refl B w) hg
theorem rev_nil (A : Option Addr) (c : Nat) (w : World) : Calls Try.prog 17 #[.slice A 0 c] w fun e w' => e = .returned (.tuple #[]) ∧ w = w' := by
  go_enter Try.func17, Try.ntmps17
  go_wp2
  go_loop [2, 3] (fun i j => i = .int .i64 0 ∧ j = .int .i64 (-1)) (fun i j => 0)
  case atStart => exact ⟨rfl, rfl⟩
  case round =>
    obtain ⟨rfl, rfl⟩ := hrel
    go_wp2
    go_end0
    exact ⟨rfl, rfl⟩
theorem rev_any (v : Value) (ps : List P2) (B : Nat) (w : World) (hB : B ≤ w.heap.size) (ho : OwnP w B v ps) (hl : ps.length ≤ 5000000000) :
    Calls Try.prog 17 #[v] w fun e w' => e = .returned (.tuple #[]) ∧ ∃ A c, v = .slice A ps.length c ∧ Pts w' A ps.reverse ∧ Below B w w' ∧ w'.heap.size = w.heap.size ∧ (∀ k, v.ownBlock ≠ some k → w'.heap[k]? = w.heap[k]?) := by
  rcases ho.2 with ⟨rfl, h0⟩ | ⟨g, cap, cur, rfl, hb, -⟩
  · have e0 : ps = [] := List.eq_nil_of_length_eq_zero h0
    subst e0
    refine (rev_nil none 0 w).mono ?_
    rintro e w' ⟨rfl, rfl⟩
    exact ⟨rfl, none, 0, rfl, Pts.nil _ _, Below.refl _ _, rfl, fun _ _ => rfl⟩
  · have hgl : g < w.heap.size := (ho.ge g rfl).2
    have hcon := AnyQ.slices_Reverse Try.reverseL 2 Try.isAgg31 Try.sizeOf31 encP (fun _ => rfl) (fun x v hv => by simp [encP] at hv; rcases hv with rfl | rfl <;> rfl) g 0 cap ps.toArray w (own_holds ho) (by simp; omega)
    rw [List.size_toArray] at hcon
    refine Calls.mono hcon ?_
    rintro e w' ⟨rfl, n, rfl⟩
    have hh := Sort.holdsK_putRowK (enc := encP) (k := 2) (Sort.ahead w n) g 0 ps.toArray ps.toArray.reverse (own_holds ho) (by simp)
    have hsz : (Sort.putRowK encP 2 (Sort.ahead w n) g 0 ps.toArray.reverse).heap.size = w.heap.size := by rw [Sort.size_putRowK]; rfl
    refine ⟨rfl, _, cap, rfl, ?_, below_rev hB hb, hsz, fun k hk => ?_⟩
    · have := holds_pts (by rw [hsz]; exact hgl) hh
      simpa using this
    · have hne : k ≠ g := fun e => hk (by rw [e]; rfl)
      simp [Sort.putRowK, Sort.putRow, Sort.mapBlock, Sort.ahead, Array.getElem?_modify, Ne.symm hne]
end Go.Proofs.Ytldbpabnfjnpbaa
