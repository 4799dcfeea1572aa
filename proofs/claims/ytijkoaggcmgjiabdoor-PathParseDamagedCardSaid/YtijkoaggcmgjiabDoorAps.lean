/- append of one segment in a walk; stores of a whole segment. -/
import Derived.Test.YtijkoaggcmgjiabDoorText
import Derived.Test.YtijkoaggcmgjiabDoorStepB
namespace Go.Proofs.YtijkoaggcmgjiabDoor
open Go Go.RowKit
set_option linter.unusedVariables false
set_option linter.unusedSimpArgs false

theorem below_set6C {B : Nat} {w0 w : World} {b : Nat} {p q r s t u : Value} (h : Below B w0 w) (hb : B ≤ b) :
    Below B w0 ((((((w.setCell ⟨b, 0, none⟩ p).setCell ⟨b, 1, none⟩ q).setCell ⟨b, 2, none⟩ r).setCell ⟨b, 3, none⟩ s).setCell ⟨b, 4, none⟩ t).setCell ⟨b, 5, none⟩ u) :=
  (((((h.setCell (p := ⟨b, 0, none⟩) hb p).setCell (p := ⟨b, 1, none⟩) hb q).setCell (p := ⟨b, 2, none⟩) hb r).setCell (p := ⟨b, 3, none⟩) hb s).setCell (p := ⟨b, 4, none⟩) hb t).setCell (p := ⟨b, 5, none⟩) hb u
theorem wpList_append_sg {ops : Array Oper} {rest : List Oper} {o : Oper} {a : Act} {Q : Exit → Act → World → Prop} {w : World} {B n : Nat} {v : Value} {xs : List Sg} {g : Sg} (hgd : o.guard = none) (s x : Operand)
    (ho : o.op = .call { callee := .builtin .append, args := #[s, x], argTypes := #[22, 22] }) (hB : B ≤ w.heap.size) (hs : a.eval s = v) (hx : a.eval x = .slice (some ⟨w.heap.size, 0, none⟩) 1 1)
    (hown : w.ownsRow B 38 6 v n (flat xs)) (hl : n ≤ 100000)
    (k : ∀ v' w', w'.ownsRow B 38 6 v' (n + 1) (flat (xs ++ [g])) → Below B w w' → wpList Tryd.prog ops Q rest (a.put o.dst v') w') : wpList Tryd.prog ops Q (o :: rest) a (w.alloc (.cells (cel g) 38)) := by
  obtain ⟨i0, hi, hz0, hz1, hz2⟩ := info_parts F2.infoSeg
  have hown1 := hown.alloc (.cells (cel g) 38)
  exact wpList_append_own (w.alloc (.cells (cel g) 38)) hgd s x 22 ho B 38 i0 _ 6 48 Tryd.underlying22 hi hz0 hz1 hz2 rfl (by decide) v n (flat xs) hs hown1
    ⟨w.heap.size, 0, none⟩ 1 1 (cel g).toList hx rfl (fun j u hu => by
      have hV := (Var.new w (cel g) 38 _ rfl).cell j
      rw [show (⟨w.heap.size, 0, none⟩ : Addr).add j = ⟨w.heap.size, j, none⟩ by unfold Addr.add; split <;> simp_all, hV]
      simpa using hu) (fun u hu => by
      simp only [List.mem_cons, List.not_mem_nil, or_false] at hu
      rcases hu with rfl | rfl | rfl | rfl | rfl | rfl <;> rfl) (by unfold maxLen; omega) (by omega) (by simp; omega)
    (fun v' w' h2 h3 _ => k v' w' (by rw [flat_append]; simpa [flat] using h2) (((Below.refl B w).alloc hB _).grown h3 (by simp; omega) (fun k hk => (hown1.lt k hk).1)))

end Go.Proofs.YtijkoaggcmgjiabDoor
