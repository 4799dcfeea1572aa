/- Lines in the memory: a row of lines, each with a row of points of its own. -/
import Derived.Test.YtcdedefhofkbhaaLnM
import Derived.Test.YtcdedefhofkbhaaMApp
namespace Go.Proofs.Ytcdedefhofkbhaa
open Go Go.RowKit
set_option linter.unusedVariables false
set_option linter.unusedSimpArgs false

abbrev LE := Value × Ln
/-- The cells of lines. -/
def lfl (es : List LE) : List Value := es.flatMap fun e => [e.1, .bool e.2.cl]
theorem lfl_length : ∀ es : List LE, (lfl es).length = es.length * 2
  | [] => rfl
  | p :: r => by
    have := lfl_length r
    show (([p.1, .bool p.2.cl] : List Value) ++ lfl r).length = _
    rw [List.length_append, this]
    simp; omega
theorem lfl_append (a b : List LE) : lfl (a ++ b) = lfl a ++ lfl b := by simp [lfl]
theorem lfl_get : ∀ (es : List LE) (i : Nat) (e : LE), es[i]? = some e → (lfl es)[i * 2]? = some e.1 ∧ (lfl es)[i * 2 + 1]? = some (.bool e.2.cl)
  | q :: r, 0, p, h => by
    obtain rfl : q = p := by simpa using h
    exact ⟨rfl, rfl⟩
  | q :: r, i + 1, p, h => by
    have := lfl_get r i p (by simpa using h)
    show ((q.1 : Value) :: .bool q.2.cl :: lfl r)[(i + 1) * 2]? = _ ∧ ((q.1 : Value) :: .bool q.2.cl :: lfl r)[(i + 1) * 2 + 1]? = _
    rw [show (i + 1) * 2 = i * 2 + 1 + 1 by omega]
    simpa using this
/-- Two rows of the call's own whose elements have different types lie apart. -/
theorem own_apart {w : World} {B B' size size' n n' : Nat} {e e' : TypeId} {v v' : Value} {xs xs' : List Value} (h : w.ownsRow B e size v n xs) (h' : w.ownsRow B' e' size' v' n' xs') (hne : e ≠ e') (hn : 0 < n) : v.ownBlock ≠ v'.ownBlock := by
  rcases h.2 with ⟨_, h0⟩ | ⟨g, cap, cur, rfl, _, hg, _⟩
  · omega
  · rcases h'.2 with ⟨rfl, _⟩ | ⟨g', cap', cur', rfl, _, hg', _⟩
    · simp [Value.ownBlock]
    · intro he
      have : g = g' := by simpa [Value.ownBlock] using he
      subst this
      rw [hg] at hg'
      injection hg' with hg'
      injection hg' with _ ht
      exact hne ht
/-- A store into a row. -/
theorem own_set {w : World} {B size n g c j : Nat} {e : TypeId} {xs : List Value} {u : Value} (h : w.ownsRow B e size (.slice (some ⟨g, 0, none⟩) n c) n xs) (hj : j < xs.length) :
    (w.setCell ⟨g, j, none⟩ u).ownsRow B e size (.slice (some ⟨g, 0, none⟩) n c) n (xs.set j u) := by
  refine ⟨by rw [List.length_set]; exact h.1, ?_⟩
  rcases h.2 with ⟨h0, _⟩ | ⟨g', cap, cur, hv, hb, hg, h1, h2, h3, h4⟩
  · cases h0
  · injection hv with hv hn hc
    injection hv with hv
    injection hv with hv
    subst hv hc
    refine .inr ⟨g, c, cur.setIfInBounds j u, rfl, hb, ?_, h1, h2, by simpa using h3, ?_⟩
    · simp [World.setCell, Array.getElem?_modify, hg]
    · rw [Array.toList_setIfInBounds, ← h4, List.take_set]
/-- A store elsewhere. -/
theorem own_far {w : World} {B size n m j : Nat} {e : TypeId} {v : Value} {xs : List Value} {u : Value} (h : w.ownsRow B e size v n xs) (hne : v.ownBlock ≠ some m) : (w.setCell ⟨m, j, none⟩ u).ownsRow B e size v n xs := by
  refine ⟨h.1, ?_⟩
  rcases h.2 with h0 | ⟨g', cap, cur, rfl, hb, hg, hr⟩
  · exact .inl h0
  · exact .inr ⟨g', cap, cur, rfl, hb, (Below.heap_setCell w ⟨m, j, none⟩ u g' (fun e => hne (by rw [e]; rfl))).trans hg, hr⟩

/-- A row of lines. -/
structure OwnL (w : World) (B : Nat) (v : Value) (es : List LE) : Prop where
  r : w.ownsRow B 44 2 v es.length (lfl es)
  p : ∀ e ∈ es, w.ownsRow B 23 2 e.1 e.2.ps.length (pfl e.2.ps) ∧ 0 < e.2.ps.length
  d : es.Pairwise fun a b => a.1.ownBlock ≠ b.1.ownBlock
theorem OwnL.nil (w : World) (B : Nat) : OwnL w B (.slice none 0 0) [] := ⟨World.ownsRow_nil _ _ _ _, fun _ h => (by cases h), .nil⟩
theorem OwnL.next {w w' : World} {B : Nat} {v : Value} {es : List LE} (h : OwnL w B v es) (hb : Below w.heap.size w w') : OwnL w' B v es :=
  ⟨own_next h.r hb, fun e he => ⟨own_next (h.p e he).1 hb, (h.p e he).2⟩, h.d⟩
theorem own_lt {w : World} {B size n : Nat} {e : TypeId} {v : Value} {xs : List Value} (h : w.ownsRow B e size v n xs) (hn : 0 < n) : ∃ g c, v = .slice (some ⟨g, 0, none⟩) n c ∧ B ≤ g ∧ g < w.heap.size := by
  obtain ⟨g, c, h1, h2, h3⟩ := h.form hn
  exact ⟨g, c, h1, h2, h3⟩
theorem infoLn : (Try.prog.info? 44).map (fun i => (i.zero, i.size, i.bytes)) = some (some (.agg #[.slice none 0 0, .bool false]), 2, 32) := by kernel_rfl
theorem lfl_one (es : List LE) : ∀ u ∈ lfl es, (∃ e ∈ es, u = e.1) ∨ ∃ b, u = .bool b := by
  intro u hu
  obtain ⟨e, he, h⟩ := List.mem_flatMap.1 hu
  rcases (by simpa using h : u = e.1 ∨ u = .bool e.2.cl) with rfl | rfl
  · exact .inl ⟨e, he, rfl⟩
  · exact .inr ⟨_, rfl⟩
/-- append of one line, out of a literal's block. -/
theorem append_line {w : World} {B : Nat} {v vp : Value} {es : List LE} {l : Ln} {ty : TypeId} (hB : B ≤ w.heap.size) (h : OwnL w B v es) (hp : w.ownsRow B 23 2 vp l.ps.length (pfl l.ps)) (h0 : 0 < l.ps.length)
    (hd : ∀ e ∈ es, e.1.ownBlock ≠ vp.ownBlock) (hl : es.length ≤ 100000) :
    ∃ v' w', (Builtin.append_ #[36, 36] ty #[v, .slice (some ⟨w.heap.size, 0, none⟩) 1 1]).run Try.prog (w.alloc (.cells #[vp, .bool l.cl] 44)) = .ok v' w' ∧ OwnL w' B v' (es ++ [(vp, l)]) ∧ Below B w w' ∧
      (∃ g c, v' = .slice (some ⟨g, 0, none⟩) (es.length + 1) c) := by
  have e := infoLn
  cases hi : Try.prog.info? 44 with
  | none => rw [hi] at e; cases e
  | some i =>
    rw [hi] at e
    simp only [Option.map_some, Option.some.injEq, Prod.mk.injEq] at e
    obtain ⟨gp, cp, hvp, -, hgp⟩ := own_lt hp h0
    have hV := Var.new w #[vp, .bool l.cl] 44 _ rfl
    obtain ⟨g', c', w', r1, r2, r3, r4, r5⟩ := run_append_lies (P := Try.prog) (w.alloc (.cells #[vp, .bool l.cl] 44)) 36 ty B 44 i (.agg #[.slice none 0 0, .bool false]) 2 32 (by kernel_rfl) hi e.1 e.2.1 e.2.2 rfl (by decide) v es.length (lfl es) (h.r.alloc _) ⟨w.heap.size, 0, none⟩ 1 1 [vp, .bool l.cl] rfl (fun j u hu => by
      rw [addr0, hV.cell j]; simpa using hu) (fun u hu => by
      rcases (by simpa using hu : u = vp ∨ u = .bool l.cl) with rfl | rfl
      · rw [hvp]; rfl
      · rfl) (by decide) (by unfold maxLen; omega) (by omega) (by simp; omega) _ rfl
    have kp : ∀ {v2 : Value} {n : Nat} {xs : List Value}, w.ownsRow B 23 2 v2 n xs → 0 < n → w'.ownsRow B 23 2 v2 n xs := fun h2 hn =>
      (h2.alloc _).kept r3 (.inr (own_apart h2 h.r (by decide) hn))
    refine ⟨_, w', r1, ⟨?_, fun e he => ?_, ?_⟩, ((Below.refl B w).alloc hB _).grown r3 (by simp; omega) (fun k hk => ((h.r.alloc (.cells #[vp, .bool l.cl] 44)).lt k hk).1), ⟨g', c', rfl⟩⟩
    · rw [lfl_append, List.length_append]; exact r2
    · rcases List.mem_append.1 he with he | he
      · exact ⟨kp (h.p e he).1 (h.p e he).2, (h.p e he).2⟩
      · rw [List.mem_singleton] at he; subst he; exact ⟨kp hp h0, h0⟩
    · rw [List.pairwise_append]
      exact ⟨h.d, List.pairwise_singleton _ _, fun a ha b hb => by rw [List.mem_singleton] at hb; subst hb; exact hd a ha⟩
/-- The cells of the last line. -/
theorem OwnL.last {w : World} {B : Nat} {v : Value} {es : List LE} {e : LE} (h : OwnL w B v (es ++ [e])) : ∃ g c, v = .slice (some ⟨g, 0, none⟩) (es.length + 1) c ∧ B ≤ g ∧ g < w.heap.size ∧
    (∃ cur : Array Value, Var w g cur 44 ∧ es.length * 2 + 1 < cur.size ∧ cur[es.length * 2]? = some e.1 ∧ cur[es.length * 2 + 1]? = some (.bool e.2.cl)) := by
  obtain ⟨g, c, h1, h2, h3⟩ := own_lt h.r (by simp)
  rcases h.r.2 with ⟨_, h0⟩ | ⟨g', cap, cur, hv, hb, hg, k1, k2, k3, k4⟩
  · simp at h0
  · rw [h1] at hv
    injection hv with hv hn hc
    injection hv with hv
    injection hv with hv
    subst hv hc
    have hget := lfl_get (es ++ [e]) es.length e (by simp)
    have hlen := lfl_length (es ++ [e])
    simp only [List.length_append, List.length_cons, List.length_nil] at hlen k1 k4 h1
    have hc : ∀ j u, (lfl (es ++ [e]))[j]? = some u → cur[j]? = some u := fun j u hu => by
      rw [← k4, List.getElem?_take] at hu
      split at hu
      · simpa using hu
      · cases hu
    exact ⟨g, c, by simpa using h1, h2, h3, cur, hg, by omega, hc _ _ hget.1, hc _ _ hget.2⟩
theorem lfl_set_cl (es : List LE) (e : LE) (b : Bool) : (lfl (es ++ [e])).set (es.length * 2 + 1) (.bool b) = lfl (es ++ [(e.1, ⟨e.2.ps, b⟩)]) := by
  rw [lfl_append, lfl_append, List.set_append, lfl_length, if_neg (by omega), show es.length * 2 + 1 - es.length * 2 = 1 by omega]
  rfl
theorem lfl_set_ps (es : List LE) (e : LE) (v : Value) (ps : List P2) : (lfl (es ++ [e])).set (es.length * 2) v = lfl (es ++ [(v, ⟨ps, e.2.cl⟩)]) := by
  rw [lfl_append, lfl_append, List.set_append, lfl_length, if_neg (by omega), show es.length * 2 - es.length * 2 = 0 by omega]
  rfl
/-- The last line is closed. -/
theorem OwnL.close {w : World} {B g c : Nat} {es : List LE} {e : LE} {b : Bool} (h : OwnL w B (.slice (some ⟨g, 0, none⟩) (es.length + 1) c) (es ++ [e])) :
    OwnL (w.setCell ⟨g, es.length * 2 + 1, none⟩ (.bool b)) B (.slice (some ⟨g, 0, none⟩) (es.length + 1) c) (es ++ [(e.1, ⟨e.2.ps, b⟩)]) := by
  have hr := h.r
  simp only [List.length_append, List.length_cons, List.length_nil, Nat.zero_add] at hr
  refine ⟨?_, fun x hx => ?_, ?_⟩
  · have := own_set (j := es.length * 2 + 1) (u := .bool b) hr (by rw [lfl_length]; simp; omega)
    rw [lfl_set_cl] at this
    simpa using this
  · have far : ∀ y ∈ es ++ [e], (w.setCell ⟨g, es.length * 2 + 1, none⟩ (.bool b)).ownsRow B 23 2 y.1 y.2.ps.length (pfl y.2.ps) ∧ 0 < y.2.ps.length := fun y hy =>
      ⟨own_far (h.p y hy).1 (fun k => own_apart (h.p y hy).1 hr (by decide) (h.p y hy).2 k), (h.p y hy).2⟩
    rcases List.mem_append.1 hx with hx | hx
    · exact far x (List.mem_append_left _ hx)
    · rw [List.mem_singleton] at hx; subst hx
      exact far e (by simp)
  · have := h.d
    rw [List.pairwise_append] at this ⊢
    exact ⟨this.1, List.pairwise_singleton _ _, fun a ha b hb => by rw [List.mem_singleton] at hb; subst hb; exact this.2.2 a ha e (by simp)⟩
/-- More points on the last line. -/
theorem OwnL.more {W w : World} {B g c : Nat} {v : Value} {es : List LE} {e : LE} {ys : List P2} (h : OwnL W B (.slice (some ⟨g, 0, none⟩) (es.length + 1) c) (es ++ [e])) (hW : B ≤ W.heap.size) (hr : AppRes W B e.1 e.2.ps ys w v) :
    OwnL (w.setCell ⟨g, es.length * 2, none⟩ v) B (.slice (some ⟨g, 0, none⟩) (es.length + 1) c) (es ++ [(v, ⟨e.2.ps ++ ys, e.2.cl⟩)]) ∧ Below B W (w.setCell ⟨g, es.length * 2, none⟩ v) := by
  have hl := h.r
  simp only [List.length_append, List.length_cons, List.length_nil, Nat.zero_add] at hl
  have hpe := h.p e (by simp)
  have hge : B ≤ g := (hl.lt g rfl).1
  have hlw : w.ownsRow B 44 2 (.slice (some ⟨g, 0, none⟩) (es.length + 1) c) (es.length + 1) (lfl (es ++ [e])) := hl.kept hr.g (.inr (fun k => own_apart hpe.1 hl (by decide) hpe.2 k.symm))
  obtain ⟨gn, cn, hv, hgn, hgl⟩ := hr.f
  have hgne : v.ownBlock ≠ some g := by
    intro k
    exact own_apart hr.o hlw (by decide) (by have := hpe.2; omega) k
  have hdd := h.d
  rw [List.pairwise_append] at hdd
  refine ⟨⟨?_, fun x hx => ?_, ?_⟩, ?_⟩
  · have := own_set (j := es.length * 2) (u := v) hlw (by rw [lfl_length, List.length_append]; show es.length * 2 < (es.length + 1) * 2; omega)
    rw [lfl_set_ps es e v (e.2.ps ++ ys)] at this
    simpa using this
  · rcases List.mem_append.1 hx with hx | hx
    · have hxp := h.p x (List.mem_append_left _ hx)
      have k1 := hxp.1.kept hr.g (.inr (hdd.2.2 x hx e (by simp)))
      exact ⟨own_far k1 (fun k => own_apart k1 hlw (by decide) hxp.2 k), hxp.2⟩
    · rw [List.mem_singleton] at hx; subst hx
      refine ⟨?_, by have := hpe.2; show 0 < (e.2.ps ++ ys).length; rw [List.length_append]; omega⟩
      have := own_far (m := g) (j := es.length * 2) (u := v) hr.o hgne
      simpa using this
  · rw [List.pairwise_append]
    refine ⟨hdd.1, List.pairwise_singleton _ _, fun a ha b hb => ?_⟩
    rw [List.mem_singleton] at hb; subst hb
    show a.1.ownBlock ≠ v.ownBlock
    rcases hgn with k | k
    · rw [hv]; show a.1.ownBlock ≠ some gn
      rw [← k]; exact hdd.2.2 a ha e (by simp)
    · obtain ⟨ga, ca, hva, -, hga⟩ := own_lt (h.p a (List.mem_append_left _ ha)).1 (h.p a (List.mem_append_left _ ha)).2
      rw [hva, hv]
      intro he
      have : ga = gn := by simpa [Value.ownBlock] using he
      omega
  · refine Below.setCell ?_ hge v
    exact (Below.refl B W).grown hr.g hW (fun k hk => (hpe.1.lt k hk).1)

end Go.Proofs.Ytcdedefhofkbhaa
