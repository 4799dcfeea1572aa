/- A range over a function: what a round is handed is known in the world in which it comes; the loop keeps what blocks of cells hold. -/
import Derived.Test.YtjflgblplmgjlaaOwn
import Derived.RangeFuncNested
import Derived.RangeFuncBound
import Derived.RangeFuncCalls
import Derived.RangeFuncLeaves
import Derived.RangeFuncFrom
import Derived.Shelf.Abstract
import Derived.Shelf.RegionOpen
import Derived.WalkKit
import Derived.OwnWalkIn
import Derived.TacticsInMore
import Derived.LoopNIn
import Derived.LoopIn
namespace Go.Proofs.Ytjflgblplmgjlaa
open Go Go.RowKit Go.Shelf
set_option linter.unusedVariables false

/-- The blocks of cells that are not among M are as they were. -/
def Kept (M : Nat → Prop) (A B : World) : Prop := A.heap.size ≤ B.heap.size ∧ ∀ q o, A.heap[q]? = some o → o.isCells = true → ¬ M q → B.heap[q]? = some o
theorem Kept.refl (M : Nat → Prop) (A : World) : Kept M A A := ⟨Nat.le_refl _, fun _ _ h _ _ => h⟩
theorem Kept.trans {M : Nat → Prop} {A B C : World} (h : Kept M A B) (k : Kept M B C) : Kept M A C := ⟨Nat.le_trans h.1 k.1, fun q o h1 h2 h3 => k.2 q o (h.2 q o h1 h2 h3) h2 h3⟩
theorem Kept.below {M : Nat → Prop} {A B : World} (h : Below A.heap.size A B) : Kept M A B := ⟨h.size, fun q o h1 _ _ => (h.block q (Array.getElem?_eq_some_iff.1 h1).1).trans h1⟩
theorem Kept.set {M : Nat → Prop} {A : World} {p : Addr} (hp : M p.block) (u : Value) : Kept M A (A.setCell p u) := ⟨by rw [World.size_setCell]; exact Nat.le_refl _, fun q o h1 _ h3 => (Below.heap_setCell A p u q (fun e => h3 (by rw [e]; exact hp))).trans h1⟩
theorem Kept.put {M : Nat → Prop} {A : World} {l : Nat} {o : Obj} (o' : Obj) (ho : A.heap[l]? = some o) (hc : o.isCells = false) : Kept M A (A.putObj l o') := ⟨by simp [World.putObj], fun q o2 h1 h2 _ => (World.putObj_heap_other (fun e => by subst e; rw [ho] at h1; cases h1; rw [hc] at h2; cases h2)).trans h1⟩
theorem Kept.grown {M : Nat → Prop} {A B : World} {row : Option Nat} (h : A.grownBy B row) (hr : ∀ r, row = some r → M r) : Kept M A B := ⟨h.size, fun q o h1 _ h3 => (h.block q (Array.getElem?_eq_some_iff.1 h1).1 (fun e => h3 (hr q e.symm))).trans h1⟩

/-- What a loop over N rows may ask of the function that yields them; Ok k v A: v is row k, in the world A. -/
def SeqA (F : Fence) (n : Nat) (P : Program) (gf : Nat) (lb : Array Value) (Ok : Nat → Array Value → World → Prop) (N : Nat) (I : Nat → (Nat → Prop) → World → Prop) : Prop :=
  ∀ (l : Nat) (J : Nat → (Nat → Prop) → World → Prop) (Jx : Nat → World → Prop) (M : Nat → Prop) (W : World),
    (∀ k M A B, J k M A → Below A.heap.size A B → J k M B) → (∀ k M A, J k M A → I k M A) → (∀ k M A, J k M A → ∀ q, M q → q < A.heap.size) →
    (∀ k M v A, J k M A → k < N → Ok k v A → YieldAt F (n - 1) P l v A fun e B => (e = .returned (.bool true) ∧ ∃ M', J (k + 1) M' B ∧ (∀ q, M' q → M q ∨ A.heap.size ≤ q) ∧ Kept M A B) ∨ (e = .returned (.bool false) ∧ Jx (k + 1) B)) →
    J 0 M W →
    CallsIn F n P gf (#[.func (.yield l) #[] #[]] ++ lb) W fun e B => (∃ v, e = .returned v) ∧ ((∃ M, J N M B) ∨ ∃ k, k < N ∧ Jx (k + 1) B)

/-- How a round may be left. -/
def rdEnd (I : Nat → (Nat → Prop) → World → Prop) (Ix : Code → Nat → World → Prop) (k : Nat) (M : Nat → Prop) (W : World) : Exit → Act → World → Prop
  | .normal, _, B => KeepsOthers W B ∧ ∃ M', I k M' B ∧ (∀ q, M' q → q < B.heap.size) ∧ (∀ q, M' q → M q ∨ W.heap.size ≤ q) ∧ Kept M W B
  | .exit id, _, B => KeepsOthers W B ∧ Ix (.exit id) k B
  | .ret, _, B => KeepsOthers W B ∧ Ix .ret k B
  | _, _, _ => False

theorem range_all {F : Fence} {n : Nat} {P : Program} {g : Operand} {ps : Array Tmp} {assign body : Code} {Q : Exit → Act → World → Prop} {a : Act} {w : World}
    (hro : F.round = none) (h1 : 1 ≤ n) {gf : Nat} {lb : Array Value} (hg : a.eval g = .func (.func gf) #[] lb) (hFg : F.fn gf) (eg : ∀ args w, (callFunc gf args).run P w = .ok (.enter gf args) w)
    (Ok : Nat → Array Value → World → Prop) (N : Nat) (I : Nat → (Nat → Prop) → World → Prop) (Ix : Code → Nat → World → Prop) (hseq : SeqA F (n - 1) P gf lb Ok N I) (hps : ∀ k v A, Ok k v A → v.size = ps.size)
    (hI : ∀ k M A B, I k M A → Below A.heap.size A B → I k M B) (hIp : ∀ k M A l o o', I k M A → w.heap.size ≤ l → A.heap[l]? = some o → o.isCells = false → o.isWalk = false → I k M (A.putObj l o')) (hIx : ∀ c k A l o o', Ix c k A → w.heap.size ≤ l → A.heap[l]? = some o → o.isCells = false → o.isWalk = false → Ix c k (A.putObj l o'))
    (M0 : Nat → Prop) (hM0 : ∀ q, M0 q → q < w.heap.size) (h0 : I 0 M0 w) (Mid : Nat → (Nat → Prop) → Array Value → Act → World → Prop) (hMp : ∀ k M v a' A l o o', Mid k M v a' A → w.heap.size ≤ l → A.heap[l]? = some o → o.isCells = false → o.isWalk = false → Mid k M v a' (A.putObj l o'))
    (hassign : ∀ l k M v W K, I k M W → (∀ q, M q → q < W.heap.size) → Ok k v W → k < N → (∀ a' W', KeepsOthers W W' → Kept M W W' → Mid k M v a' W' → K a' W') → assign.wpIn (F.inRound l) (n - 1 - 1) P (Exit.then K (fun _ _ _ => False)) { tmps := (ps.zip v).foldl (fun t (p, v) => t.setIfInBounds p v) a.tmps, defers := [] } W)
    (hbody : ∀ l k M v a' W, Mid k M v a' W → k < N → body.wpIn (F.inRound l) (n - 1 - 1) P (rdEnd I Ix (k + 1) M W) a' W)
    (hdone : ∀ D M W, w.heap.size ≤ D → I N M W → W.heap[D]? = some (.deferred (some [])) → Q .normal { a with defers := { target := .collected D, args := #[] } :: a.defers } W)
    (hstop : ∀ D c k W, w.heap.size ≤ D → k < N → Ix c (k + 1) W → W.heap[D]? = some (.deferred (some [])) → c.wpIn F n P Q { a with defers := { target := .collected D, args := #[] } :: a.defers } W) :
    (Code.rangeFunc g ps assign body).wpIn F n P Q a w := by
  refine wpIn_rangeFunc fun fn hfn => ?_
  obtain ⟨rec, hrec⟩ : ∃ rec : LoopState → Option Code → Loop, rec = fun st pe => { state := st, pending := pe, fn, tmps := a.tmps, params := ps, assign, body, defers := w.heap.size } := ⟨_, rfl⟩
  obtain ⟨V, hV⟩ : ∃ V, V = (w.alloc (.deferred (some []))).alloc (.loop (rec .ready none)) := ⟨_, rfl⟩
  have hL : V.heap[w.heap.size + 1]? = some (.loop (rec .ready none)) := by
    rw [hV]; have := World.alloc_heap_new (w.alloc (.deferred (some []))) (.loop (rec .ready none)); rwa [World.size_alloc] at this
  have hD : V.heap[w.heap.size]? = some (.deferred (some [])) := by
    rw [hV]; exact (Below.heap_alloc _ _ _ (by simp)).trans (World.alloc_heap_new w _)
  have hV0 : I 0 M0 V := hI 0 M0 w V h0 (by rw [hV]; exact ((Below.refl _ w).alloc (Nat.le_refl _) _).alloc (by simp) _)
  rw [hro]
  refine ⟨w.heap.size + 1, [{ target := .collected w.heap.size, args := #[] }], V, { target := .fn (.func gf) lb, args := #[.func (.yield (w.heap.size + 1)) #[] #[]] }, V, gf,
    #[.func (.yield (w.heap.size + 1)) #[] #[]] ++ lb, V, ?_, ?_, ?_, ?_, fun _ => h1, ?_⟩
  · rw [hV, hrec]; exact run_enterLoop_outer _ _ _ _ _
  · simp only [resolve, hg]
    simp [go_sem]
  · intro f' hf'; simp [Target.leads] at hf'; subst hf'; exact hFg
  · simp [invoke, go_sem, eg]
  refine (hseq (w.heap.size + 1)
    (fun k M W => I k M W ∧ (∀ q, M q → q < W.heap.size) ∧ W.heap[w.heap.size + 1]? = some (.loop (rec .ready none)) ∧ W.heap[w.heap.size]? = some (.deferred (some [])))
    (fun k W => ∃ c, Ix c k W ∧ W.heap[w.heap.size + 1]? = some (.loop (rec .done (some c))) ∧ W.heap[w.heap.size]? = some (.deferred (some [])))
    M0 V ?_ (fun k M A h => h.1) (fun k M A h => h.2.1) ?_ ⟨hV0, fun q hq => Nat.lt_of_lt_of_le (hM0 q hq) (by rw [hV]; simp; omega), hL, hD⟩).mono ?_
  · rintro k M A B ⟨hi, hm, hl, hk⟩ hb
    have hlt := (Array.getElem?_eq_some_iff.1 hl).1
    exact ⟨hI k M A B hi hb, fun q hq => Nat.lt_of_lt_of_le (hm q hq) hb.size, (hb.block _ hlt).trans hl, (hb.block _ (by omega)).trans hk⟩
  · -- one round
    rintro k M v W ⟨hi, hm, hl, hk⟩ hN hok
    have hlt := (Array.getElem?_eq_some_iff.1 hl).1
    have hy := run_yield (P := P) (args := v) hl (by rw [hrec]; exact hps k v W hok)
    rw [hrec] at hy
    refine ⟨fn, _, assign, body, hy, roundIn_of_wpIn hfn (hassign _ k M v W _ hi hm hok hN fun a' W' hko hkp hmid => ?_)⟩
    have hl' := hko.same _ _ hl rfl
    have hk' := hko.same _ _ hk rfl
    have hlt' := (Array.getElem?_eq_some_iff.1 hl').1
    refine ⟨_, run_beginRound hl' (by rw [hrec]), ?_⟩
    obtain ⟨X, hX⟩ : ∃ X, X = W'.putObj (w.heap.size + 1) (.loop { rec .ready none with state := .busy }) := ⟨_, rfl⟩
    have xl : X.heap[w.heap.size + 1]? = some (.loop { rec .ready none with state := .busy }) := by rw [hX]; exact World.putObj_heap_same hlt'
    have xk : X.heap[w.heap.size]? = some (.deferred (some [])) := by rw [hX]; exact (World.putObj_heap_other (by omega)).trans hk'
    rw [← hX]
    have kX : Kept M W X := by rw [hX]; exact hkp.trans (Kept.put _ hl' rfl)
    refine wpIn_mono (hbody _ k M v a' X (by rw [hX]; exact hMp _ _ _ _ _ _ _ _ hmid (by omega) hl' rfl rfl) hN) ?_
    rintro e a3 Y hp
    have fin : ∀ jump : Option Code, KeepsOthers X Y →
        ∃ Z, (Instr.endRound (w.heap.size + 1) jump).run P Y = .ok (.bool jump.isNone) Z ∧ (∀ k M, I k M Y → I k M Z) ∧ (∀ M, Kept M Y Z) ∧ (∀ c k, Ix c k Y → Ix c k Z) ∧
          Z.heap[w.heap.size + 1]? = some (.loop (rec (if jump.isNone then .ready else .done) jump)) ∧ Z.heap[w.heap.size]? = some (.deferred (some [])) := fun jump hk3 => by
      have yl := hk3.same _ _ xl rfl
      have yk := hk3.same _ _ xk rfl
      have he := run_endRound (P := P) jump yl
      have ylt := (Array.getElem?_eq_some_iff.1 yl).1
      refine ⟨_, he, fun k M h => hIp k M Y _ _ _ h (by omega) yl rfl rfl, fun M => Kept.put _ yl rfl, fun c k h => hIx c k Y _ _ _ h (by omega) yl rfl rfl, ?_, (World.putObj_heap_other (by omega)).trans yk⟩
      rw [World.putObj_heap_same ylt, hrec]
    cases e with
    | normal =>
      obtain ⟨hk3, M', hi3, hm3, hg3, hp3⟩ := hp
      obtain ⟨Z, he, hb, hz, -, z1, z2⟩ := fin none hk3
      exact ⟨_, _, he, .inl ⟨rfl, M', ⟨hb _ _ hi3, fun q hq => Nat.lt_of_lt_of_le (hm3 q hq) (hz M).1, z1, z2⟩, fun q hq => (hg3 q hq).imp id (Nat.le_trans kX.1), (kX.trans hp3).trans (hz M)⟩⟩
    | exit id =>
      obtain ⟨hk3, hi3⟩ := hp
      obtain ⟨Z, he, -, -, hb, z1, z2⟩ := fin (some (.exit id)) hk3
      exact ⟨_, _, he, .inr ⟨rfl, .exit id, hb _ _ hi3, z1, z2⟩⟩
    | ret =>
      obtain ⟨hk3, hi3⟩ := hp
      obtain ⟨Z, he, -, -, hb, z1, z2⟩ := fin (some .ret) hk3
      exact ⟨_, _, he, .inr ⟨rfl, .ret, hb _ _ hi3, z1, z2⟩⟩
    | goto t => exact hp.elim
    | panic ch => exact hp.elim
    | outgrown => exact hp.elim
  · -- behind the function
    rintro e Y ⟨⟨v, rfl⟩, (⟨M, hi, -, hl, hk⟩ | ⟨k, hN, c, hi, hl, hk⟩)⟩
    · have := run_endLoop (P := P) hl (by rw [hrec]; simp)
      rw [hrec] at this
      exact ⟨none, _, this, hdone _ _ _ (Nat.le_refl _) (hIp _ _ _ _ _ _ hi (by omega) hl rfl rfl) ((World.putObj_heap_other (by omega)).trans hk)⟩
    · have := run_endLoop (P := P) hl (by rw [hrec]; simp)
      rw [hrec] at this
      exact ⟨some c, _, this, hstop _ c k _ (Nat.le_refl _) hN (hIx _ _ _ _ _ _ hi (by omega) hl rfl rfl) ((World.putObj_heap_other (by omega)).trans hk)⟩

end Go.Proofs.Ytjflgblplmgjlaa
