/- Slices that lie apart (out of fill's Fst and Del). -/
import Derived.Test.YtjflgblplmgjlaaOwn
namespace Go.Proofs.Ytjflgblplmgjlaa
open Go Go.RowKit
set_option linter.unusedVariables false

theorem adr0 (g j : Nat) : (⟨g, 0, none⟩ : Addr).add j = ⟨g, j, none⟩ := by unfold Addr.add; split <;> simp_all
/-- Two slices lie in different blocks. -/
def apart (v u : Value) : Prop := ∀ q, v.ownBlock = some q → u.ownBlock ≠ some q
theorem apart.symm {v u : Value} (h : apart v u) : apart u v := fun q h1 h2 => h q h2 h1
theorem apart.gr {v v' u : Value} {W w : World} (h : apart v u) (hg : Gr v v' W w) (hu : ∀ q, u.ownBlock = some q → q < W.heap.size) : apart v' u := fun q h1 h2 => by
  rcases hg.o q h1 with h3 | h3
  · exact h q h3 h2
  · have := hu q h2; omega
theorem apart.nil (u : Value) : apart (.slice none 0 0) u := fun q h => by cases h
theorem apart.like {v u u' : Value} (h : apart v u) (e : u'.ownBlock = u.ownBlock) : apart v u' := fun q h1 => by rw [e]; exact h q h1
/-- The block of a variable, as a slice of it. -/
def yb (b : Nat) : Value := .slice (some ⟨b, 0, none⟩) 1 1
theorem yb_own (b q : Nat) : (yb b).ownBlock = some q ↔ b = q := by show some b = some q ↔ _; simp
theorem Gr.keeps {v v' u : Value} {W w : World} (hg : Gr v v' W w) (h : apart v u) (hu : ∀ q, u.ownBlock = some q → q < W.heap.size) : ∀ q, u.ownBlock = some q → w.heap[q]? = W.heap[q]? := fun q hq => hg.block (hu q hq) (h.symm q hq)

def ptrInt (w : World) : Value → Int
  | .pointer (some a) => match w.cell? a with
    | some (.int _ z) => z
    | _ => 0
  | _ => 0
theorem ptrInt_is {w : World} {b : Nat} {z : Int} (h : w.cell? ⟨b, 0, none⟩ = some (.int .i64 z)) : ptrInt w (.pointer (some ⟨b, 0, none⟩)) = z := by
  unfold ptrInt; simp only; rw [h]
theorem ob0 (A : Option Addr) (n m c : Nat) : (Value.slice A n c).ownBlock = (Value.slice A m c).ownBlock := by cases A <;> rfl
theorem apart.row {v : Value} {A : Option Addr} {n c : Nat} (h : apart v (.slice A n c)) : ∀ a, A = some a → v.ownBlock ≠ some a.block := fun a e h2 => by subst e; exact h _ h2 rfl
theorem apart.no {v : Value} {b : Nat} (h : apart v (yb b)) : v.ownBlock ≠ some b := fun e => h b e rfl
end Go.Proofs.Ytjflgblplmgjlaa
