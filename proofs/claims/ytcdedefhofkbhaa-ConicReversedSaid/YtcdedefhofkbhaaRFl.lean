/- The state of the reference's Flattened while a line is drawn. -/
import Derived.Test.YtcdedefhofkbhaaFlatn
import Derived.Test.YtcdedefhofkbhaaEnds
import Derived.Test.YtcdedefhofkbhaaSameP
namespace Go.Proofs.Ytcdedefhofkbhaa
open Go Go.RowKit
set_option linter.unusedVariables false
set_option linter.unusedSimpArgs false

theorem tw_mid (ss : List Sg) : ∀ d j, d < tw ss j → ∃ h : j + d < ss.length, ss[j + d].k ≠ 1
  | d, j, hd => by
    have hj : j < ss.length := by
      rcases Nat.lt_or_ge j ss.length with h | h
      · exact h
      · rw [tw_end h] at hd; omega
    have hk : ss[j].k ≠ 1 := fun e => by rw [tw_move hj e] at hd; omega
    cases d with
    | zero => exact ⟨hj, hk⟩
    | succ d =>
      rw [tw_next hj hk] at hd
      obtain ⟨h1, h2⟩ := tw_mid ss d (j + 1) (by omega)
      exact ⟨by omega, by simpa [show j + 1 + d = j + (d + 1) by omega] using h2⟩
theorem tw_stop (ss : List Sg) : ∀ f j, ss.length ≤ j + f → ∀ h : j + tw ss j < ss.length, ss[j + tw ss j].k = 1
  | 0, j, hf, h => absurd h (by omega)
  | f + 1, j, hf, h => by
    have hj : j < ss.length := by omega
    by_cases hk : ss[j].k = 1
    · have e := tw_move hj hk
      simpa [e] using hk
    · have e := tw_next hj hk
      have h2 : j + 1 + tw ss (j + 1) < ss.length := by omega
      have := tw_stop ss f (j + 1) (by omega) h2
      simpa [e, show j + (tw ss (j + 1) + 1) = j + 1 + tw ss (j + 1) by omega] using this
theorem ends_mid {ss : List Sg} {i k : Nat} (h1 : i < k) (h2 : k < ends ss i) : ∃ h : k < ss.length, ss[k].k ≠ 1 := by
  rw [ends_tw] at h2
  obtain ⟨a, b⟩ := tw_mid ss (k - (i + 1)) (i + 1) (by omega)
  have e : i + 1 + (k - (i + 1)) = k := by omega
  exact ⟨by omega, by simpa [e] using b⟩
theorem ends_next {ss : List Sg} {i : Nat} (h : ends ss i < ss.length) : ss[ends ss i].k = 1 := by
  have := tw_stop ss ss.length (i + 1) (by omega) (by rw [← ends_tw]; exact h)
  simpa [ends_tw] using this

structure ISt (w : World) (B b5 b6 : Nat) (v3 : Value) (es : List LE) (v : Value) (l : Ln) (p : P2) : Prop where
  o : OwnL w B v3 es
  vv : w.ownsRow B 23 2 v l.ps.length (pfl l.ps) ∧ 0 < l.ps.length
  c6 : Var w b6 #[v, .bool l.cl] 44
  c5 : Var w b5 (pcel p) 23
  d : ∀ e ∈ es, e.1.ownBlock ≠ v.ownBlock ∧ e.1.ownBlock ≠ some b5
  n : v.ownBlock ≠ some b5 ∧ v3.ownBlock ≠ some b6
  g : B ≤ b5 ∧ B ≤ b6
theorem own_var {w : World} {B size n g : Nat} {e t : TypeId} {v : Value} {xs : List Value} {cur : Array Value} (h : w.ownsRow B e size v n xs) (hV : Var w g cur t) (hne : e ≠ t) : v.ownBlock ≠ some g := by
  rcases h.2 with ⟨rfl, _⟩ | ⟨g', cap', cur', rfl, _, hg', _⟩
  · simp [Value.ownBlock]
  · intro he
    have : g' = g := by simpa [Value.ownBlock] using he
    subst this
    unfold Var at hV
    rw [hV] at hg'
    injection hg' with hg'
    injection hg' with _ ht
    exact hne ht.symm
section
variable {w w' : World} {B b5 b6 : Nat} {v3 v : Value} {es : List LE} {l : Ln} {p : P2}
theorem ISt.next (h : ISt w B b5 b6 v3 es v l p) (hb : Below w.heap.size w w') : ISt w' B b5 b6 v3 es v l p :=
  ⟨h.o.next hb, ⟨own_next h.vv.1 hb, h.vv.2⟩, h.c6.next hb, h.c5.next hb, h.d, h.n, h.g⟩
theorem ISt.close (h : ISt w B b5 b6 v3 es v l p) : ISt (w.setCell ⟨b6, 1, none⟩ (.bool true)) B b5 b6 v3 es v ⟨l.ps, true⟩ p :=
  ⟨⟨own_far h.o.r h.n.2, fun e he => ⟨own_far (h.o.p e he).1 (own_var (h.o.p e he).1 h.c6 (by decide)), (h.o.p e he).2⟩, h.o.d⟩,
    ⟨own_far h.vv.1 (own_var h.vv.1 h.c6 (by decide)), h.vv.2⟩, h.c6.set (i := 1) (.bool true), h.c5.far (p := ⟨b6, 1, none⟩) (fun e => by
      have h5 := h.c5; have h6 := h.c6
      unfold Var at h5 h6
      rw [e] at h5
      rw [h5] at h6
      injection h6 with h6
      injection h6 with _ ht
      exact absurd ht (by decide)) _, h.d, h.n, h.g⟩
theorem ISt.move (h : ISt w B b5 b6 v3 es v l p) (q : P2) : ISt ((w.setCell ⟨b5, 0, none⟩ (.int .i64 q.x)).setCell ⟨b5, 1, none⟩ (.int .i64 q.y)) B b5 b6 v3 es v l q := by
  have far : ∀ {size n : Nat} {e : TypeId} {v2 : Value} {xs : List Value}, w.ownsRow B e size v2 n xs → v2.ownBlock ≠ some b5 → ((w.setCell ⟨b5, 0, none⟩ (.int .i64 q.x)).setCell ⟨b5, 1, none⟩ (.int .i64 q.y)).ownsRow B e size v2 n xs := fun h2 hne => own_far (own_far h2 hne) hne
  have h65 : b6 ≠ b5 := fun e => by
    have h5 := h.c5; have h6 := h.c6
    unfold Var at h5 h6
    rw [e] at h6
    rw [h5] at h6
    injection h6 with h6
    injection h6 with _ ht
    exact absurd ht (by decide)
  exact ⟨⟨far h.o.r (own_var h.o.r h.c5 (by decide)), fun e he => ⟨far (h.o.p e he).1 (h.d e he).2, (h.o.p e he).2⟩, h.o.d⟩, ⟨far h.vv.1 h.n.1, h.vv.2⟩, h.c6.far2 h65, h.c5.set2, h.d, h.n, h.g⟩
theorem ISt.more {wa : World} {v' : Value} {ys : List P2} (h : ISt w B b5 b6 v3 es v l p) (hB : B ≤ w.heap.size) (hr : AppRes w B v l.ps ys wa v') :
    ISt (wa.setCell ⟨b6, 0, none⟩ v') B b5 b6 v3 es v' ⟨l.ps ++ ys, l.cl⟩ p ∧ Below B w (wa.setCell ⟨b6, 0, none⟩ v') := by
  obtain ⟨gn, cn, hv, hgn, hgl⟩ := hr.f
  have k6 : Var wa b6 #[v, .bool l.cl] 44 := h.c6.keep (hr.g.block b6 h.c6.lt (fun e => own_var h.vv.1 h.c6 (by decide) e.symm))
  have k5 : Var wa b5 (pcel p) 23 := h.c5.keep (hr.g.block b5 h.c5.lt (fun e => h.n.1 e.symm))
  have h65 : b5 ≠ b6 := fun e => by
    have h5 := h.c5; have h6 := h.c6
    unfold Var at h5 h6
    rw [e] at h5
    rw [h5] at h6
    injection h6 with h6
    injection h6 with _ ht
    exact absurd ht (by decide)
  have k3 : wa.ownsRow B 44 2 v3 es.length (lfl es) := h.o.r.kept hr.g (.inr (fun k => own_apart h.vv.1 h.o.r (by decide) h.vv.2 k.symm))
  have kp : ∀ e ∈ es, wa.ownsRow B 23 2 e.1 e.2.ps.length (pfl e.2.ps) := fun e he => (h.o.p e he).1.kept hr.g (.inr (h.d e he).1)
  refine ⟨⟨⟨own_far k3 h.n.2, fun e he => ⟨own_far (kp e he) (own_var (kp e he) k6 (by decide)), (h.o.p e he).2⟩, h.o.d⟩, ⟨?_, by have := h.vv.2; show 0 < (l.ps ++ ys).length; rw [List.length_append]; omega⟩, k6.set (i := 0) v', k5.far (p := ⟨b6, 0, none⟩) h65 _, fun e he => ⟨?_, (h.d e he).2⟩, ⟨?_, h.n.2⟩, h.g⟩, ?_⟩
  · have := own_far (m := b6) (j := 0) (u := v') hr.o (own_var hr.o k6 (by decide))
    simpa using this
  · rcases hgn with k | k
    · rw [hv]; show e.1.ownBlock ≠ some gn
      rw [← k]; exact (h.d e he).1
    · obtain ⟨ga, ca, hva, -, hga⟩ := own_lt (h.o.p e he).1 (h.o.p e he).2
      rw [hva, hv]
      intro hh
      have : ga = gn := by simpa [Value.ownBlock] using hh
      omega
  · rw [hv]
    rcases hgn with k | k
    · show some gn ≠ some b5
      rw [← k]; exact h.n.1
    · intro hh
      have : gn = b5 := by simpa [Value.ownBlock] using hh
      have := h.c5.lt
      omega
  · refine Below.setCell ?_ h.g.2 v'
    exact (Below.refl B w).grown hr.g hB (fun k hk => (h.vv.1.lt k hk).1)
end

end Go.Proofs.Ytcdedefhofkbhaa
