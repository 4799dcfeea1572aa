/- A region that draws its order, by an invariant over what has come up: where an operation's value depends on the order (a new block's number). -/
import Derived.Test.YtjflgblplmgjlaaStep
import Derived.Test.YtjflgblplmgjlaaFanB
namespace Go.Proofs.Ytjflgblplmgjlaa.Iv
open Go Go.RowKit
set_option linter.unusedVariables false

section
variable {P : Program} {ops : Array Oper}

/-- What an operation's run has to leave. -/
def Does (P : Program) (K : Value → World → Prop) : Result Next → Prop
  | .ok (.value v) w' => K v w'
  | .ok .skip w' => K undef w'
  | .ok (.enter f args) w' => Calls P f args w' fun e w'' => ∃ v, e = .returned v ∧ K v w''
  | _ => False

def mark (L : Nat → Bool) (i : Nat) : Nat → Bool := fun j => bif Nat.beq j i then true else L j
def put (f : Nat → Value) (d : Option Tmp) (v : Value) : Nat → Value := match d with
  | some d => upd f d v
  | none => f
/-- Operation number i, wherever it may come up. -/
def StepOk (P : Program) (ops : Array Oper) (n : Nat) (I : (Nat → Bool) → (Nat → Value) → World → Prop) (i : Nat) (o : Oper) : Prop :=
  (∀ d, o.dst = some d → d < n) ∧ ∀ L f w, L i = false → (∀ e ∈ o.after, Region.binds .any e = true → L e.on = true) → I L f w →
    (Region.wanted o (yieldE ops f) = true → Does P (fun v w' => I (mark L i) (put f o.dst v) w') ((execOp (env f) o).run P w)) ∧
    (Region.wanted o (yieldE ops f) = false → I (mark L i) (put f o.dst undef) w)
def Steps (P : Program) (ops : Array Oper) (n : Nat) (I : (Nat → Bool) → (Nat → Value) → World → Prop) : Nat → List Oper → Prop
  | _, [] => True
  | i, o :: r => StepOk P ops n I i o ∧ Steps P ops n I (i + 1) r
theorem Steps.at_ {n : Nat} {I : (Nat → Bool) → (Nat → Value) → World → Prop} : ∀ (l : List Oper) (k : Nat), Steps P ops n I k l → ∀ (j : Nat) (o : Oper), l[j]? = some o → StepOk P ops n I (k + j) o
  | o :: l, k, h, 0, o', ho => by obtain rfl : o = o' := by simpa using ho
                                  exact h.1
  | o :: l, k, h, j + 1, o', ho => by
    have := Steps.at_ l (k + 1) h.2 j o' (by simpa using ho)
    rwa [show k + 1 + j = k + (j + 1) by omega] at this
  | [], k, _, j, o', ho => by simp at ho

def un (f : Nat → Bool) : Nat → Nat
  | 0 => 0
  | n + 1 => un f n + (bif f n then 0 else 1)
theorem un_congr {f g : Nat → Bool} : ∀ n, (∀ j, j < n → f j = g j) → un f n = un g n
  | 0, _ => rfl
  | n + 1, h => by simp only [un]; rw [un_congr n fun j hj => h j (by omega), h n (by omega)]
theorem un_set {f g : Nat → Bool} {i : Nat} (hf : f i = false) (hg : g i = true) (h : ∀ j, j ≠ i → g j = f j) : ∀ n, i < n → un g n + 1 = un f n
  | n + 1, hn => by
    simp only [un]
    by_cases e : i = n
    · subst e
      rw [hf, hg, un_congr i fun j hj => h j (by omega)]
      simp
    · rw [h n (by omega), ← un_set hf hg h n (by omega)]
      omega
theorem un_pos {f : Nat → Bool} {i : Nat} (hf : f i = false) : ∀ n, i < n → 1 ≤ un f n
  | n + 1, hn => by
    simp only [un]
    by_cases e : i = n
    · subst e; rw [hf]; simp
    · have := un_pos hf n (by omega); omega

theorem all_of_ready {listed : Array Bool} (hz : listed.size = ops.size) (hback : F2.backB 0 ops.toList = true) (h : Region.ready .any ops listed = []) : ∀ i, i < ops.size → listed.getD i false = true := by
  intro i
  induction i using Nat.strongRecOn with
  | _ i ih =>
    intro hi
    cases hl : listed.getD i false
    · exfalso
      have : i ∈ Region.ready .any ops listed := mem_ready.2 ⟨getD_in (by omega) hl, ops[i], Array.getElem?_eq_getElem hi, fun e he hb => by
        have h1 := F2.backB_spec _ 0 hback i ops[i] (by simp [hi]) e he hb
        exact ih e.on (by omega) (by omega)⟩
      rw [h] at this
      cases this
    · rfl

theorem wpAny_inv {n : Nat} {I : (Nat → Bool) → (Nat → Value) → World → Prop} {Q : Exit → Act → World → Prop} (hback : F2.backB 0 ops.toList = true) (hst : Steps P ops n I 0 ops.toList)
    (hend : ∀ L f a w, (∀ i, i < ops.size → L i = true) → I L f w → Is a n f → Q .normal a w) :
    ∀ (fuel : Nat) (listed : Array Bool) (f : Nat → Value) (a : Act) (w : World), listed.size = ops.size → un (fun j => listed.getD j false) ops.size ≤ fuel → I (fun j => listed.getD j false) f w → Is a n f → wpAny P .any ops Q fuel listed a w
  | fuel, listed, f, a, w, hz, hu, hI, ha => by
    have fin : Region.ready .any ops listed = [] → Q .normal a w := fun h => hend _ f a w (all_of_ready hz hback h) hI ha
    cases fuel with
    | zero =>
      have hr : Region.ready .any ops listed = [] := List.eq_nil_iff_forall_not_mem.2 fun i hi => by
        have := un_pos (f := fun j => listed.getD j false) (getD_both (mem_ready.1 hi).1) ops.size (F2.ready_lt hi)
        omega
      exact ⟨hr, fin hr⟩
    | succ fuel =>
      refine ⟨fin, fun i hi => ?_⟩
      obtain ⟨hun, o, ho, hall⟩ := mem_ready.1 hi
      have hlt := F2.ready_lt hi
      obtain ⟨hd, hs⟩ := Steps.at_ _ 0 hst i o (by simpa using ho)
      obtain ⟨hyes, hno⟩ := hs (fun j => listed.getD j false) f w (by rw [Nat.zero_add]; exact getD_both hun) hall hI
      rw [Nat.zero_add] at hyes hno
      have hL : (fun j => (listed.setIfInBounds i true).getD j false) = mark (fun j => listed.getD j false) i := by
        funext j
        unfold mark
        by_cases e : i = j
        · subst e
          rw [Nat.beq_refl]
          simp [show i < listed.size by omega]
        · rw [getD_set_ne false e]
          have : Nat.beq j i = false := by
            cases h : Nat.beq j i
            · rfl
            · exact absurd (Nat.eq_of_beq_eq_true h).symm e
          rw [this]
          rfl
      have next : ∀ v w', I (mark (fun j => listed.getD j false) i) (put f o.dst v) w' → wpAny P .any ops Q fuel (listed.setIfInBounds i true) (a.put o.dst v) w' := fun v w' hI' => by
        refine wpAny_inv hback hst hend fuel _ (put f o.dst v) _ w' (by simp [hz]) ?_ (by rw [hL]; exact hI') ?_
        · have := un_set (f := fun j => listed.getD j false) (g := fun j => (listed.setIfInBounds i true).getD j false) (i := i) (getD_both hun) (by simp [show i < listed.size by omega]) (fun j hj => getD_set_ne false (Ne.symm hj)) ops.size hlt
          omega
        · cases hdst : o.dst with
          | none => exact ha
          | some d => exact ha.put (hd d hdst) v
      unfold wpOp
      simp only [ho]
      have hy : yielded ops a.tmps = yieldE ops f := ha.yields ops
      by_cases hw : Region.wanted o (yielded ops a.tmps) = true
      · rw [if_pos hw]
        refine .inl ?_
        have h1 := hyes (by rw [← hy]; exact hw)
        unfold Oper.wp
        rw [ha.eval]
        generalize (execOp (env f) o).run P w = r at h1
        cases r with
        | ok nx w' =>
          cases nx <;> simp only [Does] at h1 <;> simp only [Oper.upon]
          case value v => exact next v w' h1
          case skip => exact next undef w' h1
          case enter g args =>
            exact h1.mono fun e w'' ⟨v, he, hv⟩ => by subst he; exact next v w'' hv
        | halt x w' => simp only [Does] at h1
      · rw [if_neg hw]
        exact next undef w (hno (by rw [← hy]; simpa using hw))

theorem wp_region_inv {id n : Nat} {Q : Exit → Act → World → Prop} {a : Act} {w : World} {l : List Oper} (I : (Nat → Bool) → (Nat → Value) → World → Prop) (f : Nat → Value) (hm : P.follows .mixedOrders = true) (hB : F2.backB 0 l = true) (ha : Is a n f)
    (h0 : I (fun _ => false) f w.drew) (hst : Steps P l.toArray n I 0 l) (hend : ∀ L f a w, (∀ i, i < l.length → L i = true) → I L f w → Is a n f → Q .normal a w) : (Code.region id l.toArray true).wp P Q a w := by
  refine wp_region_any hm ?_
  refine wpAny_inv (I := I) (n := n) (by simpa using hB) (by simpa using hst) (fun L f a w h => hend L f a w (by simpa using h)) _ _ f _ _ (by simp) ?_ ?_ ha
  · have : ∀ m g, un g m ≤ m := fun m g => by
      induction m with
      | zero => exact Nat.le_refl _
      | succ m ih => simp only [un]; cases g m <;> simp <;> omega
    exact this _ _
  · have e : (fun j => (Array.replicate l.toArray.size false).getD j false) = fun _ => false := funext fun j => getD_replicate_false _ _
    rw [e]
    exact h0
end

end Go.Proofs.Ytjflgblplmgjlaa.Iv
