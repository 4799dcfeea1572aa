/- A region that draws its order, in a round too: its operations read, its callees add new blocks; one walk in the order of the text. -/
import Derived.Test.YtjflgblplmgjlaaSeq
import Derived.Test.YtjflgblplmgjlaaQrd
namespace Go.Proofs.Ytjflgblplmgjlaa
open Go Go.RowKit
set_option linter.unusedVariables false
set_option linter.unusedSimpArgs false
section
variable {F : Fence} {n : Nat} {P : Program}
theorem grow_round {id : Nat} {Q : Exit → Act → World → Prop} {a : Act} {w : World} {l : List Oper} (hnd : noDefer l.toArray = true) (hm : P.follows .mixedOrders = true) (hB : Region.lexB .any l.toArray = true)
    (h : wpQuietIn F n P l.toArray (fun w' => Below w.heap.size w w') (fun a' => ∀ w', Below w.heap.size w w' → Q .normal a' w') l a) : (Code.region id l.toArray true).wpIn F n P Q a w := by
  simp only [Region.lexB, Bool.and_eq_true] at hB
  refine wpIn_region_any hm (wpAnyIn_of_quietR (C := fun w' => Below w.heap.size w w') (Q := fun a' => ∀ w', Below w.heap.size w w' → Q .normal a' w') hnd (fun _ w' hw' h => h w' hw') _ _ _ _ (Below.refl _ _).drew ?_)
  have := wpAnyQIn_lex (F := F) (n := n) (C := fun w' => Below w.heap.size w w') (md := .any) hB.1 l 0 (Array.replicate l.toArray.size false) a (by simp) (by simpa using hB.2) h
  simpa using this
variable {ops : Array Oper} {C : World → Prop} {Q : Act → Prop} {o : Oper} {rest : List Oper} {a : Act} {v : Value}
theorem gq_val (hF : ∀ f, F.fn f) (hw : Region.wanted o (yielded ops a.tmps) = true) (h : ∀ w, C w → (execOp a.eval o).run P w = .ok (.value v) w) (k : wpQuietIn F n P ops C Q rest (a.put o.dst v)) : wpQuietIn F n P ops C Q (o :: rest) a := by
  refine ⟨fun _ _ _ _ => hF _, ?_⟩
  rw [if_pos hw]
  exact ⟨v, fun w hC => by unfold Oper.quietAtIn; rw [h w hC]; exact ⟨rfl, rfl⟩, k⟩
theorem gq_skip (hF : ∀ f, F.fn f) (hw : Region.wanted o (yielded ops a.tmps) = false) (k : wpQuietIn F n P ops C Q rest (a.put o.dst undef)) : wpQuietIn F n P ops C Q (o :: rest) a := by
  refine ⟨fun _ _ _ _ => hF _, ?_⟩
  rw [if_neg (by simp [hw])]
  exact k
theorem gq_call {f : FuncId} {args : Array Value} (hF : ∀ f, F.fn f) (hn : F.depth = none) (hw : Region.wanted o (yielded ops a.tmps) = true) (h : ∀ w, (execOp a.eval o).run P w = .ok (.enter f args) w)
    (hc : ∀ w, C w → CallsIn F (n - 1) P f args w fun e w' => e = .returned v ∧ C w') (k : wpQuietIn F n P ops C Q rest (a.put o.dst v)) : wpQuietIn F n P ops C Q (o :: rest) a := by
  refine ⟨fun _ _ _ _ => hF _, ?_⟩
  rw [if_pos hw]
  exact ⟨v, fun w hC => by unfold Oper.quietAtIn; rw [h w]; exact ⟨rfl, by simp [hn], hc w hC⟩, k⟩
end
theorem Var.read1 {w : World} {n : Nat} {a : Value} {t : TypeId} (h : Var w n #[a] t) : w.cell? ⟨n, 0, none⟩ = some a ∧ ∀ i, w.frozen? ⟨n, i, none⟩ = false := ⟨h.cell 0, h.free⟩
end Go.Proofs.Ytjflgblplmgjlaa
