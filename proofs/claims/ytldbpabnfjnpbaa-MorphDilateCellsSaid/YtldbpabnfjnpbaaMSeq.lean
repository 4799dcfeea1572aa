/- A range over a function: what a round is handed is known in the world in which it comes; the loop keeps what blocks of cells hold. -/
import Derived.Test.YtldbpabnfjnpbaaMWid
import Derived.RangeFuncNested
import Derived.RangeFuncBound
import Derived.RangeFuncCalls
import Derived.RangeFuncLeaves
import Derived.RangeFuncFrom
import Derived.Shelf.Abstract
import Derived.Shelf.RegionOpen
import Derived.WalkKit
import Derived.OwnWalkIn
import Derived.TacticsInMore
import Derived.LoopNIn
import Derived.LoopIn
namespace Go.Proofs.Ytldbpabnfjnpbaa
open Go Go.RowKit Go.Shelf
set_option linter.unusedVariables false

/-- What a loop over N rows may ask of the function that yields them; Ok k v A: v is row k, in the world A. -/
def SeqRows (F : Fence) (n : Nat) (P : Program) (gf : Nat) (lb : Array Value) (Ok : Nat → Value → World → Prop) (N : Nat) (I : Nat → World → Prop) : Prop :=
  ∀ (l : Nat) (J Jx : Nat → World → Prop) (W : World),
    (∀ k A B, J k A → Below A.heap.size A B → J k B) → (∀ k A, J k A → I k A) →
    (∀ k v A, J k A → k < N → Ok k v A → YieldAt F (n - 1) P l #[v] A fun e B => (e = .returned (.bool true) ∧ J (k + 1) B) ∨ (e = .returned (.bool false) ∧ Jx (k + 1) B)) →
    J 0 W →
    CallsIn F n P gf (#[.func (.yield l) #[] #[]] ++ lb) W fun e B => (∃ v, e = .returned v) ∧ (J N B ∨ ∃ k, k < N ∧ Jx (k + 1) B)

/-- How a round may be left. -/
def roundEnd (I : Nat → World → Prop) (Ix : Code → Nat → World → Prop) (k : Nat) (W : World) : Exit → Act → World → Prop
  | .normal, _, B => KeepsOthers W B ∧ I k B
  | .exit id, _, B => KeepsOthers W B ∧ Ix (.exit id) k B
  | _, _, _ => False

theorem range_rows {F : Fence} {n : Nat} {P : Program} {g : Operand} {ps : Array Tmp} {assign body : Code} {Q : Exit → Act → World → Prop} {a : Act} {w : World}
    (hro : F.round = none) (h1 : 1 ≤ n) {gf : Nat} {lb : Array Value} (hg : a.eval g = .func (.func gf) #[] lb) (hFg : F.fn gf) (eg : ∀ args w, (callFunc gf args).run P w = .ok (.enter gf args) w)
    (Ok : Nat → Value → World → Prop) (N : Nat) (I : Nat → World → Prop) (Ix : Code → Nat → World → Prop) (hseq : SeqRows F (n - 1) P gf lb Ok N I) (hps : ps.size = 1)
    (hI : ∀ k A B, I k A → Below A.heap.size A B → I k B) (hIp : ∀ k A l o o', I k A → w.heap.size ≤ l → A.heap[l]? = some o → o.isCells = false → o.isWalk = false → I k (A.putObj l o')) (hIx : ∀ c k A l o o', Ix c k A → w.heap.size ≤ l → A.heap[l]? = some o → o.isCells = false → o.isWalk = false → Ix c k (A.putObj l o'))
    (hOk : ∀ k v A l o r, Ok k v A → A.heap[l]? = some (.loop r) → Ok k v (A.putObj l o))
    (h0 : I 0 w) (a₁ : Value → Act)
    (hassign : ∀ l v W K, K (a₁ v) W → assign.wpIn (F.inRound l) (n - 1 - 1) P (Exit.then K (fun _ _ _ => False)) { tmps := (ps.zip #[v]).foldl (fun t (p, v) => t.setIfInBounds p v) a.tmps, defers := [] } W)
    (hbody : ∀ l k v W, I k W → Ok k v W → k < N → body.wpIn (F.inRound l) (n - 1 - 1) P (roundEnd I Ix (k + 1) W) (a₁ v) W)
    (hdone : ∀ D W, w.heap.size ≤ D → I N W → W.heap[D]? = some (.deferred (some [])) → Q .normal { a with defers := { target := .collected D, args := #[] } :: a.defers } W)
    (hstop : ∀ D c k W, w.heap.size ≤ D → k < N → Ix c (k + 1) W → W.heap[D]? = some (.deferred (some [])) → c.wpIn F n P Q { a with defers := { target := .collected D, args := #[] } :: a.defers } W) :
    (Code.rangeFunc g ps assign body).wpIn F n P Q a w := by
  refine wpIn_rangeFunc fun fn hfn => ?_
  obtain ⟨rec, hrec⟩ : ∃ rec : LoopState → Option Code → Loop, rec = fun st pe => { state := st, pending := pe, fn, tmps := a.tmps, params := ps, assign, body, defers := w.heap.size } := ⟨_, rfl⟩
  obtain ⟨V, hV⟩ : ∃ V, V = (w.alloc (.deferred (some []))).alloc (.loop (rec .ready none)) := ⟨_, rfl⟩
  have hL : V.heap[w.heap.size + 1]? = some (.loop (rec .ready none)) := by
    rw [hV]; have := World.alloc_heap_new (w.alloc (.deferred (some []))) (.loop (rec .ready none)); rwa [World.size_alloc] at this
  have hD : V.heap[w.heap.size]? = some (.deferred (some [])) := by
    rw [hV]; exact (Below.heap_alloc _ _ _ (by simp)).trans (World.alloc_heap_new w _)
  have hV0 : I 0 V := hI 0 w V h0 (by rw [hV]; exact ((Below.refl _ w).alloc (Nat.le_refl _) _).alloc (by simp) _)
  rw [hro]
  refine ⟨w.heap.size + 1, [{ target := .collected w.heap.size, args := #[] }], V, { target := .fn (.func gf) lb, args := #[.func (.yield (w.heap.size + 1)) #[] #[]] }, V, gf,
    #[.func (.yield (w.heap.size + 1)) #[] #[]] ++ lb, V, ?_, ?_, ?_, ?_, fun _ => h1, ?_⟩
  · rw [hV, hrec]; exact run_enterLoop_outer _ _ _ _ _
  · simp only [resolve, hg]
    simp [go_sem]
  · intro f' hf'; simp [Target.leads] at hf'; subst hf'; exact hFg
  · simp [invoke, go_sem, eg]
  refine (hseq (w.heap.size + 1)
    (fun k W => I k W ∧ W.heap[w.heap.size + 1]? = some (.loop (rec .ready none)) ∧ W.heap[w.heap.size]? = some (.deferred (some [])))
    (fun k W => ∃ c, Ix c k W ∧ W.heap[w.heap.size + 1]? = some (.loop (rec .done (some c))) ∧ W.heap[w.heap.size]? = some (.deferred (some [])))
    V ?_ (fun k A h => h.1) ?_ ⟨hV0, hL, hD⟩).mono ?_
  · rintro k A B ⟨hi, hl, hk⟩ hb
    have hlt := (Array.getElem?_eq_some_iff.1 hl).1
    exact ⟨hI k A B hi hb, (hb.block _ hlt).trans hl, (hb.block _ (by omega)).trans hk⟩
  · -- one round
    rintro k v W ⟨hi, hl, hk⟩ hN hok
    have hlt := (Array.getElem?_eq_some_iff.1 hl).1
    have hy := run_yield (P := P) (args := #[v]) hl (by rw [hrec]; exact hps.symm)
    rw [hrec] at hy
    refine ⟨fn, _, assign, body, hy, roundIn_of_wpIn hfn (hassign _ v W _ ⟨_, run_beginRound hl (by rw [hrec]), ?_⟩)⟩
    obtain ⟨X, hX⟩ : ∃ X, X = W.putObj (w.heap.size + 1) (.loop { rec .ready none with state := .busy }) := ⟨_, rfl⟩
    have xl : X.heap[w.heap.size + 1]? = some (.loop { rec .ready none with state := .busy }) := by rw [hX]; exact World.putObj_heap_same hlt
    have xk : X.heap[w.heap.size]? = some (.deferred (some [])) := by rw [hX]; exact (World.putObj_heap_other (by omega)).trans hk
    rw [← hX]
    refine wpIn_mono (hbody _ k v X (by rw [hX]; exact hIp k W _ _ _ hi (by omega) hl rfl rfl) (by rw [hX]; exact hOk k v W _ _ _ hok hl) hN) ?_
    rintro e a3 Y hp
    have fin : ∀ jump : Option Code, KeepsOthers X Y →
        ∃ Z, (Instr.endRound (w.heap.size + 1) jump).run P Y = .ok (.bool jump.isNone) Z ∧ (∀ k, I k Y → I k Z) ∧ (∀ c k, Ix c k Y → Ix c k Z) ∧
          Z.heap[w.heap.size + 1]? = some (.loop (rec (if jump.isNone then .ready else .done) jump)) ∧ Z.heap[w.heap.size]? = some (.deferred (some [])) := fun jump hk3 => by
      have yl := hk3.same _ _ xl rfl
      have yk := hk3.same _ _ xk rfl
      have he := run_endRound (P := P) jump yl
      have ylt := (Array.getElem?_eq_some_iff.1 yl).1
      refine ⟨_, he, fun k h => hIp k Y _ _ _ h (by omega) yl rfl rfl, fun c k h => hIx c k Y _ _ _ h (by omega) yl rfl rfl, ?_, (World.putObj_heap_other (by omega)).trans yk⟩
      rw [World.putObj_heap_same ylt, hrec]
    cases e with
    | normal =>
      obtain ⟨hk3, hi3⟩ := hp
      obtain ⟨Z, he, hb, -, z1, z2⟩ := fin none hk3
      exact ⟨_, _, he, .inl ⟨rfl, hb _ hi3, z1, z2⟩⟩
    | exit id =>
      obtain ⟨hk3, hi3⟩ := hp
      obtain ⟨Z, he, -, hb, z1, z2⟩ := fin (some (.exit id)) hk3
      exact ⟨_, _, he, .inr ⟨rfl, .exit id, hb _ _ hi3, z1, z2⟩⟩
    | ret => exact hp.elim
    | goto t => exact hp.elim
    | panic ch => exact hp.elim
    | outgrown => exact hp.elim
  · -- behind the function
    rintro e Y ⟨⟨v, rfl⟩, (⟨hi, hl, hk⟩ | ⟨k, hN, c, hi, hl, hk⟩)⟩
    · have := run_endLoop (P := P) hl (by rw [hrec]; simp)
      rw [hrec] at this
      exact ⟨none, _, this, hdone _ _ (Nat.le_refl _) (hIp _ _ _ _ _ hi (by omega) hl rfl rfl) ((World.putObj_heap_other (by omega)).trans hk)⟩
    · have := run_endLoop (P := P) hl (by rw [hrec]; simp)
      rw [hrec] at this
      exact ⟨some c, _, this, hstop _ c k _ (Nat.le_refl _) hN (hIx _ _ _ _ _ _ hi (by omega) hl rfl rfl) ((World.putObj_heap_other (by omega)).trans hk)⟩

end Go.Proofs.Ytldbpabnfjnpbaa
