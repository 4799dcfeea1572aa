/- Slices of runs that a function makes: literals, appended ones. -/
import Derived.Test.YtjflgblplmgjlaaSeq
import Derived.Laws.AppendOwn
import Derived.Laws.OwnMore
import Derived.OwnWalk
import Derived.Deep.AppendLies
namespace Go.Proofs.Ytjflgblplmgjlaa
open Go Go.RowKit
set_option linter.unusedVariables false

/-- The cells of runs, one behind the other. -/
def flat (ss : List Rn) : List Value := ss.flatMap fun s => (cel s).toList
theorem flat_cons (s : Rn) (r : List Rn) : flat (s :: r) = (cel s).toList ++ flat r := rfl
theorem flat_append (a b : List Rn) : flat (a ++ b) = flat a ++ flat b := by simp [flat]
theorem flat_length : ∀ ss : List Rn, (flat ss).length = ss.length * 3
  | [] => rfl
  | s :: r => by rw [flat_cons, List.length_append, flat_length r]; simp; omega
theorem flat_get : ∀ (ss : List Rn) (i j : Nat) (s : Rn), ss[i]? = some s → j < 3 → (flat ss)[i * 3 + j]? = (cel s)[j]?
  | [], i, j, s, h, _ => by simp at h
  | g :: r, 0, j, s, h, hj => by
    obtain rfl : g = s := by simpa using h
    rw [flat_cons, List.getElem?_append_left (by simpa using by omega)]
    simp
  | g :: r, i + 1, j, s, h, hj => by
    have h' : r[i]? = some s := by simpa using h
    rw [flat_cons, List.getElem?_append_right (by simp; omega)]
    rw [show (i + 1) * 3 + j - (cel g).toList.length = i * 3 + j by simp; omega]
    exact flat_get r i j s h' hj

/-- A block whose first cells are those of the runs. -/
theorem runs_block {w : World} {g : Nat} {ss : List Rn} (hg : g < w.heap.size) (h : ∀ j u, (flat ss)[j]? = some u → w.cell? ⟨g, j, none⟩ = some u) : Runs w (some ⟨g, 0, none⟩) ss := fun _ => ⟨_, rfl, hg, fun i s hs => rnAt_of fun j hj => by
  have e : (⟨g, 0, none⟩ : Addr).add (i * 3) = ⟨g, i * 3, none⟩ := by unfold Addr.add; split <;> simp_all
  have e' : (⟨g, i * 3, none⟩ : Addr).add j = ⟨g, i * 3 + j, none⟩ := by unfold Addr.add; split <;> simp_all
  have h1 := flat_get ss i j s hs hj
  have h2 : (cel s)[j]? = some ((cel s)[j]'(by simpa using hj)) := Array.getElem?_eq_getElem _
  rw [e, e', h2]
  exact h _ _ (h1.trans h2)⟩
theorem Var.runs {w : World} {g : Nat} {ss : List Rn} {t : TypeId} (h : Var w g (flat ss).toArray t) : Runs w (some ⟨g, 0, none⟩) ss := runs_block h.lt fun j u hu => by
  rw [h.cell]
  simpa using hu
theorem info_parts {P : Program} {t : TypeId} {z : Value} {s b : Nat} (h : (P.info? t).map (fun i => (i.zero, i.size, i.bytes)) = some (some z, s, b)) : ∃ i, P.info? t = some i ∧ i.zero = some z ∧ i.size = s ∧ i.bytes = b := by
  cases hi : P.info? t with
  | none => rw [hi] at h; cases h
  | some i =>
    rw [hi] at h
    simp only [Option.map_some, Option.some.injEq, Prod.mk.injEq] at h
    exact ⟨i, rfl, h.1, h.2.1, h.2.2⟩
theorem flat_int (ys : List Rn) : ∀ u ∈ flat ys, u.oneCell' = true := by
  intro u hu
  unfold flat at hu
  obtain ⟨s, -, h⟩ := List.mem_flatMap.1 hu
  simp only [List.mem_cons, List.not_mem_nil, or_false] at h
  rcases h with rfl | rfl | rfl <;> rfl
/-- From W on, the row v grew into v': no older block has changed but v's own. -/
structure Gr (v v' : Value) (W w : World) : Prop where
  g : W.grownBy w v.ownBlock
  o : ∀ k, v'.ownBlock = some k → v.ownBlock = some k ∨ W.heap.size ≤ k
theorem Gr.refl (v : Value) (W : World) : Gr v v W W := ⟨World.grownBy.refl _ _, fun k h => .inl h⟩
theorem Gr.trans {v0 v1 v2 : Value} {W w1 w2 : World} (h : Gr v0 v1 W w1) (k : Gr v1 v2 w1 w2) : Gr v0 v2 W w2 := by
  refine ⟨⟨k.g.os.trans h.g.os, k.g.tape.trans h.g.tape, k.g.output.trans h.g.output, Nat.le_trans h.g.size k.g.size, fun i hi hne => ?_⟩, fun i hi => ?_⟩
  · have h1 : some i ≠ v1.ownBlock := fun e => by
      rcases h.o i e.symm with e1 | e1
      · exact hne e1.symm
      · omega
    exact (k.g.block i (Nat.lt_of_lt_of_le hi h.g.size) h1).trans (h.g.block i hi hne)
  · rcases k.o i hi with e | e
    · exact h.o i e
    · exact .inr (Nat.le_trans h.g.size e)
theorem Gr.of_below {v : Value} {W w : World} (h : Below W.heap.size W w) : Gr v v W w := ⟨⟨h.os, h.tape, h.output, h.size, fun i hi _ => h.block i hi⟩, fun k e => .inl e⟩
theorem Gr.next {v v' : Value} {W w w' : World} (h : Gr v v' W w) (k : Below w.heap.size w w') : Gr v v' W w' := h.trans (Gr.of_below k)
theorem Gr.alloc {v v' : Value} {W w : World} (h : Gr v v' W w) (o : Obj) : Gr v v' W (w.alloc o) := h.next ((Below.refl _ _).alloc (Nat.le_refl _) o)
theorem Gr.below {v v' : Value} {W w : World} {B : Nat} (h : Gr v v' W w) (hB : B ≤ W.heap.size) (ho : ∀ k, v.ownBlock = some k → B ≤ k) : Below B W w :=
  (Below.refl B W).grown h.g hB ho
/-- Of a row that was nil: nothing older has changed. -/
theorem Gr.nil {v' : Value} {W w : World} (h : Gr (.slice none 0 0) v' W w) : Below W.heap.size W w := h.below (Nat.le_refl _) (fun k e => by cases e)
theorem Gr.size {v v' : Value} {W w : World} (h : Gr v v' W w) : W.heap.size ≤ w.heap.size := h.g.size
theorem Gr.var {v v' : Value} {W w : World} {b : Nat} {c : Array Value} {t : TypeId} (h : Gr v v' W w) (hV : Var W b c t) (hne : v.ownBlock ≠ some b) : Var w b c t := hV.keep (h.g.block b hV.lt (fun e => hne e.symm))
theorem Gr.block {v v' : Value} {W w : World} {b : Nat} (h : Gr v v' W w) (hb : b < W.heap.size) (hne : v.ownBlock ≠ some b) : w.heap[b]? = W.heap[b]? := h.g.block b hb (fun e => hne e.symm)

theorem Gr.cellk {v v' : Value} {W w : World} {b o : Nat} {u : Value} (h : Gr v v' W w) (hb : b < W.heap.size) (hne : v.ownBlock ≠ some b) (hc : W.cell? ⟨b, o, none⟩ = some u) : w.cell? ⟨b, o, none⟩ = some u :=
  (World.cell?_of_block (a := ⟨b, o, none⟩) (h.block hb hne)).trans hc

theorem own_next {w w' : World} {B size n : Nat} {e : TypeId} {v : Value} {xs : List Value} (h : w.ownsRow B e size v n xs) (hb : Below w.heap.size w w') : w'.ownsRow B e size v n xs := by
  refine ⟨h.1, ?_⟩
  rcases h.2 with h1 | ⟨g, cap, cur, hv, hB, hh, hr⟩
  · exact .inl h1
  · refine .inr ⟨g, cap, cur, hv, hB, (hb.block g ?_).trans hh, hr⟩
    rcases Nat.lt_or_ge g w.heap.size with k | k
    · exact k
    · rw [Array.getElem?_eq_none k] at hh; cases hh
theorem own_at {w : World} {B n g c : Nat} {e : TypeId} {size : Nat} {xs : List Value} (h : w.ownsRow B e size (.slice (some ⟨g, 0, none⟩) n c) n xs) : B ≤ g ∧ g < w.heap.size ∧ n ≤ c := by
  rcases h.2 with ⟨h0, _⟩ | ⟨g2, cap, cur, hv, hb, hh, hn, _⟩
  · cases h0
  · injection hv with hv hv1 hv2; injection hv with hv; injection hv with hv; subst hv
    refine ⟨hb, ?_, by omega⟩
    rcases Nat.lt_or_ge g w.heap.size with k | k
    · exact k
    · rw [Array.getElem?_eq_none k] at hh; cases hh

/-- The last run's end is set. -/
def setEnd (xs : List Rn) (b : Int) : List Rn := match xs.getLast? with
  | none => []
  | some l => xs.dropLast ++ [⟨l.y, l.a, b⟩]
theorem setEnd_snoc (xs : List Rn) (l : Rn) (b : Int) : setEnd (xs ++ [l]) b = xs ++ [⟨l.y, l.a, b⟩] := by simp [setEnd]
theorem setEnd_length (xs : List Rn) (b : Int) : (setEnd xs b).length = xs.length := by
  rcases List.eq_nil_or_concat xs with rfl | ⟨ys, l, rfl⟩
  · rfl
  · rw [List.concat_eq_append, setEnd_snoc]; simp
theorem flat_snoc_set (xs : List Rn) (l : Rn) (b : Int) : (flat (xs ++ [l])).set (xs.length * 3 + 2) (.int .i64 b) = flat (xs ++ [⟨l.y, l.a, b⟩]) := by
  rw [flat_append, flat_append, List.set_append_right _ _ (by rw [flat_length]; omega)]
  rw [flat_length, show xs.length * 3 + 2 - xs.length * 3 = 2 by omega]
  rfl
theorem Gr.set {w : World} {g n c j : Nat} {u : Value} : Gr (.slice (some ⟨g, 0, none⟩) n c) (.slice (some ⟨g, 0, none⟩) n c) w (w.setCell ⟨g, j, none⟩ u) :=
  ⟨⟨rfl, rfl, rfl, by simp [World.setCell], fun k hk hne => Below.heap_setCell _ _ _ _ (fun e => hne (by rw [e]; rfl))⟩, fun k e => .inl e⟩

end Go.Proofs.Ytjflgblplmgjlaa
