/- A region that draws its order, all of whose operations but a forced tail keep a class of worlds: one walk in the order of the text serves every order. Some of the operations, in the order of the list s, each move the worlds from one class to the next (a new block, a store, an append). -/
import Derived.Test.YtjflgblplmgjlaaRows
import Derived.StillTail
import Derived.WalkKit
namespace Go.Proofs.Ytjflgblplmgjlaa.F2
open Go Go.RowKit
set_option linter.unusedVariables false

section
variable {P : Program} {ops : Array Oper} {md : Region.Mode} {s : List Nat} {C : Nat → World → Prop}

/-- What an operation's run has to be: the value v, and a world of the class K. -/
def Fans (P : Program) (K : World → Prop) (w : World) (v : Value) : Result Next → Prop
  | .ok (.value u) w' => K w' ∧ u = v
  | .ok .skip w' => K w' ∧ v = undef
  | .ok (.enter f args) w' => w' = w ∧ Calls P f args w fun e w'' => e = .returned v ∧ K w''
  | _ => False

def step (s : List Nat) (i b : Nat) : Nat := if i ∈ s then b + 1 else b
/-- How many of the list's first operations have come up. -/
def lvl (f : Nat → Bool) : List Nat → Nat
  | [] => 0
  | i :: r => bif f i then lvl f r + 1 else 0
theorem lvl_eq (f : Nat → Bool) : ∀ (s : List Nat) (k : Nat), k ≤ s.length → (∀ j i, j < k → s[j]? = some i → f i = true) → (∀ i, s[k]? = some i → f i = false) → lvl f s = k
  | [], k, hk, _, _ => by simp at hk; subst hk; rfl
  | i :: r, 0, _, _, h => by simp only [lvl]; rw [h i rfl]; rfl
  | i :: r, k + 1, hk, h1, h2 => by
    simp only [lvl]
    rw [h1 0 i (by omega) rfl, lvl_eq f r k (by simpa using hk) (fun j i' hj hi' => h1 (j + 1) i' (by omega) (by simpa using hi')) (fun i' hi' => h2 i' (by simpa using hi'))]
    rfl
theorem lvl_congr {f g : Nat → Bool} : ∀ (s : List Nat), (∀ i ∈ s, f i = g i) → lvl f s = lvl g s
  | [], _ => rfl
  | i :: r, h => by simp only [lvl]; rw [h i (by simp), lvl_congr r fun j hj => h j (by simp [hj])]
/-- Operation number i yields v in every world of the class in which it may come up; or its guard says no. -/
def Fan (P : Program) (ops : Array Oper) (s : List Nat) (C : Nat → World → Prop) (i : Nat) (o : Oper) (a : Act) (v : Value) : Prop :=
  (Region.wanted o (yielded ops a.tmps) = true ∧ ∀ b w, (i ∈ s → s[b]? = some i) → C b w → Fans P (C (step s i b)) w v ((execOp a.eval o).run P w)) ∨
  (Region.wanted o (yielded ops a.tmps) = false ∧ v = undef ∧ i ∉ s)

/-- The walk in the order of the text, from operation number i on. -/
def Walks (P : Program) (ops : Array Oper) (s : List Nat) (C : Nat → World → Prop) (Q : Act → Prop) : Nat → List Oper → Act → Prop
  | _, [], a => Q a
  | i, o :: rest, a => ∃ v, Fan P ops s C i o a v ∧ Walks P ops s C Q (i + 1) rest (a.put o.dst v)

def fanAt (P : Program) (ops : Array Oper) (s : List Nat) (C : Nat → World → Prop) (i : Nat) (K : Act → Prop) (a : Act) : Prop :=
  match ops[i]? with
  | none => K a
  | some o => ∃ v, Fan P ops s C i o a v ∧ K (a.put o.dst v)

theorem fanAt_mono {i : Nat} {a : Act} {K K' : Act → Prop} (h : ∀ a, K a → K' a) (hh : fanAt P ops s C i K a) : fanAt P ops s C i K' a := by
  unfold fanAt at *
  cases ho : ops[i]? with
  | none => simp only [ho] at hh ⊢; exact h _ hh
  | some o => simp only [ho] at hh ⊢; exact ⟨hh.choose, hh.choose_spec.1, h _ hh.choose_spec.2⟩

/-- Whatever order is picked while the first n operations come up. -/
def fanHead (P : Program) (md : Region.Mode) (ops : Array Oper) (s : List Nat) (C : Nat → World → Prop) (n : Nat) (L : Array Bool → Act → Prop) : Nat → Array Bool → Act → Prop
  | 0, listed, a => L listed a
  | f + 1, listed, a => Region.ready md ops listed ≠ [] ∧ ∀ i ∈ Region.ready md ops listed, i < n ∧ fanAt P ops s C i (fanHead P md ops s C n L f (listed.setIfInBounds i true)) a

theorem ready_lt {i : Nat} {listed : Array Bool} (h : i ∈ Region.ready md ops listed) : i < ops.size := by
  obtain ⟨_, o, ho, _⟩ := mem_ready.1 h
  exact (Array.getElem?_eq_some_iff.1 ho).1

/-- The list's operations are ahead of number n, rise, and each waits for the one before. -/
def spB (ops : Array Oper) (n : Nat) (s : List Nat) : Bool :=
  s.all (fun i => decide (i < n)) && (List.range s.length).all fun k => match s[k]?, s[k + 1]? with
    | some i, some j => decide (i < j) && (match ops[j]? with
      | some o => o.after.any fun e => Region.binds .any e && e.on == i
      | none => false)
    | _, _ => true
theorem spB_lt {n : Nat} (h : spB ops n s = true) {i : Nat} (hi : i ∈ s) : i < n := by
  simp only [spB, Bool.and_eq_true] at h
  simpa using List.all_eq_true.1 h.1 i hi
theorem spB_next {n k i j : Nat} (h : spB ops n s = true) (hi : s[k]? = some i) (hj : s[k + 1]? = some j) : i < j ∧ ∃ o, ops[j]? = some o ∧ ∃ e ∈ o.after, Region.binds .any e = true ∧ e.on = i := by
  simp only [spB, Bool.and_eq_true] at h
  have hk : k < s.length := (List.getElem?_eq_some_iff.1 hi).1
  have h1 := List.all_eq_true.1 h.2 k (List.mem_range.2 hk)
  simp only [hi, hj, Bool.and_eq_true, decide_eq_true_eq] at h1
  refine ⟨h1.1, ?_⟩
  have h2 := h1.2
  cases ho : ops[j]? with
  | none => rw [ho] at h2; cases h2
  | some o =>
    rw [ho] at h2
    obtain ⟨e, he, hb⟩ := Array.any_eq_true'.1 h2
    simp only [Bool.and_eq_true, beq_iff_eq] at hb
    exact ⟨o, rfl, e, he, hb.1, hb.2⟩
theorem spB_rise {n : Nat} (h : spB ops n s = true) : ∀ (d k i j : Nat), s[k]? = some i → s[k + d + 1]? = some j → i < j
  | 0, k, i, j, hi, hj => (spB_next h hi hj).1
  | d + 1, k, i, j, hi, hj => by
    have hl := (List.getElem?_eq_some_iff.1 hj).1
    have hm : s[k + d + 1]? = some s[k + d + 1] := List.getElem?_eq_getElem (by omega)
    have h1 := spB_rise h d k i _ hi hm
    have h2 := (spB_next h hm hj).1
    omega

def Closed (ops : Array Oper) (listed : Array Bool) : Prop := ∀ j oj, ops[j]? = some oj → listed.getD j false = true → ∀ e ∈ oj.after, Region.binds .any e = true → listed.getD e.on false = true
theorem Closed.set {listed : Array Bool} (h : Closed ops listed) {i : Nat} (hi : i ∈ Region.ready .any ops listed) : Closed ops (listed.setIfInBounds i true) := by
  intro j oj hj hl e he hb
  have up : ∀ k, listed.getD k false = true → (listed.setIfInBounds i true).getD k false = true := fun k hk => by
    by_cases e : i = k
    · subst e
      by_cases hz : i < listed.size
      · simp [hz]
      · simp [Array.getElem?_eq_none (show listed.size ≤ i by omega)] at hk
    · rw [getD_set_ne false e]; exact hk
  by_cases e' : i = j
  · subst e'
    obtain ⟨_, o, ho, hall⟩ := mem_ready.1 hi
    obtain rfl : o = oj := Option.some.inj (ho.symm.trans hj)
    exact up _ (hall e he hb)
  · rw [getD_set_ne false e'] at hl
    exact up _ (h j oj hj hl e he hb)
theorem Closed.down {n : Nat} {listed : Array Bool} (h : Closed ops listed) (hs : spB ops n s = true) : ∀ (d k i j : Nat), s[k]? = some i → s[k + d]? = some j → listed.getD j false = true → listed.getD i false = true
  | 0, k, i, j, hi, hj, hl => by rw [Nat.add_zero] at hj; rw [hi] at hj; cases hj; exact hl
  | d + 1, k, i, j, hi, hj, hl => by
    have hlt := (List.getElem?_eq_some_iff.1 hj).1
    have hm : s[k + d]? = some s[k + d] := List.getElem?_eq_getElem (by omega)
    obtain ⟨-, o, ho, e, he, hb, hon⟩ := spB_next hs hm (by rw [Nat.add_assoc]; exact hj)
    have h1 := h j o ho hl e he hb
    rw [hon] at h1
    exact Closed.down h hs d k i _ hi hm h1

/-- The level at an operation of the list that may come up now. -/
theorem lvl_at {n k i : Nat} {listed : Array Bool} (h : Closed ops listed) (hs : spB ops n s = true) (hk : s[k]? = some i) (hi : i ∈ Region.ready .any ops listed) (hz : listed.size = ops.size) :
    lvl (fun j => listed.getD j false) s = k ∧ lvl (fun j => (listed.setIfInBounds i true).getD j false) s = k + 1 := by
  have hkl := (List.getElem?_eq_some_iff.1 hk).1
  have hun : listed.getD i false = false := getD_both (mem_ready.1 hi).1
  have hlow : ∀ j i', j < k → s[j]? = some i' → listed.getD i' false = true := fun j i' hj hi' => by
    obtain ⟨d, rfl⟩ : ∃ d, k = j + d + 1 := ⟨k - j - 1, by omega⟩
    have hm : s[j + d]? = some s[j + d] := List.getElem?_eq_getElem (by omega)
    obtain ⟨-, o, ho, e, he, hb, hon⟩ := spB_next hs hm hk
    obtain ⟨_, o', ho', hall⟩ := mem_ready.1 hi
    obtain rfl : o = o' := Option.some.inj (ho.symm.trans ho')
    have h1 := hall e he hb
    rw [hon] at h1
    exact h.down hs d j i' _ hi' hm h1
  refine ⟨lvl_eq _ s k (by omega) hlow (fun i' hi' => by rw [hk] at hi'; cases hi'; exact hun), lvl_eq _ s (k + 1) (by omega) (fun j i' hj hi' => ?_) (fun i' hi' => ?_)⟩
  · by_cases e : j = k
    · subst e
      rw [hk] at hi'
      cases hi'
      have : i < listed.size := by rw [hz]; exact ready_lt hi
      simp [this]
    · have h1 := hlow j i' (by omega) hi'
      have hne : i ≠ i' := fun e => by subst e; rw [hun] at h1; cases h1
      show (listed.setIfInBounds i true).getD i' false = true
      rw [getD_set_ne false hne]
      exact h1
  · have hne : i ≠ i' := fun e => by have := (spB_next hs hk hi').1; omega
    show (listed.setIfInBounds i true).getD i' false = false
    rw [getD_set_ne false hne]
    cases hl : listed.getD i' false
    · rfl
    · have := h.down hs 1 k i i' hk hi' hl
      rw [hun] at this
      cases this

theorem wpOp_of_fanAt {i : Nat} {a : Act} {w : World} {b : Nat} {K : Act → Prop} {K' : Act → World → Prop} {Q : Exit → Act → World → Prop} (hb : i ∈ s → s[b]? = some i) (hC : C b w)
    (h : ∀ a w', C (step s i b) w' → K a → K' a w') (hn : i < ops.size) (hh : fanAt P ops s C i K a) : wpOp P ops Q i K' a w := by
  have ho : ops[i]? = some ops[i] := Array.getElem?_eq_getElem hn
  unfold fanAt at hh
  simp only [ho] at hh
  obtain ⟨v, hv, hk⟩ := hh
  unfold wpOp
  simp only [ho]
  rcases hv with ⟨hw, hv⟩ | ⟨hw, rfl, hne⟩
  case inr =>
    rw [if_neg (by rw [hw]; exact Bool.false_ne_true)]
    exact h _ _ (by rw [step, if_neg hne]; exact hC) hk
  rw [if_pos hw]
  refine .inl ?_
  have h1 := hv b w hb hC
  unfold Oper.wp
  generalize (execOp a.eval ops[i]).run P w = r at h1
  cases r with
  | ok n w' =>
    cases n <;> simp only [Fans] at h1 <;> simp only [Oper.upon]
    case value u =>
      obtain ⟨h2, rfl⟩ := h1
      exact h _ _ h2 hk
    case skip =>
      obtain ⟨h2, rfl⟩ := h1
      exact h _ _ h2 hk
    case enter f args =>
      obtain ⟨rfl, h2⟩ := h1
      exact h2.mono fun e w'' ⟨he, hw'⟩ => by subst he; exact h _ _ hw' hk
  | halt x w' => simp only [Fans] at h1

theorem wpAny_of_fan {n g m : Nat} {L : Array Bool → Act → Prop} {Q : Exit → Act → World → Prop} (hs : spB ops m s = true)
    (hL : ∀ listed a w, C (lvl (fun j => listed.getD j false) s) w → L listed a → wpAny P .any ops Q g listed a w) :
    ∀ (f : Nat) (listed : Array Bool) (a : Act) (w : World), listed.size = ops.size → Closed ops listed → C (lvl (fun j => listed.getD j false) s) w → fanHead P .any ops s C n L f listed a → wpAny P .any ops Q (f + g) listed a w
  | 0, listed, a, w, _, _, hC, h => by rw [Nat.zero_add]; exact hL _ _ _ hC h
  | f + 1, listed, a, w, hz, hcl, hC, h => by
    rw [show f + 1 + g = (f + g) + 1 by omega]
    refine ⟨fun h0 => absurd h0 h.1, fun i hi => ?_⟩
    have hlt := ready_lt hi
    refine wpOp_of_fanAt (b := lvl (fun j => listed.getD j false) s) (fun e => ?_) hC (fun a' w' hC' h' => wpAny_of_fan hs hL f _ a' w' (by simp [hz]) (hcl.set hi) ?_ h') hlt (h.2 i hi).2
    · obtain ⟨k, hk⟩ := List.getElem?_of_mem e
      rw [(lvl_at hcl hs hk hi hz).1]
      exact hk
    · by_cases e : i ∈ s
      · obtain ⟨k, hk⟩ := List.getElem?_of_mem e
        obtain ⟨e1, e2⟩ := lvl_at hcl hs hk hi hz
        rw [step, if_pos e, e1] at hC'
        rw [e2]
        exact hC'
      · rw [step, if_neg e] at hC'
        rw [lvl_congr (f := fun j => (listed.setIfInBounds i true).getD j false) (g := fun j => listed.getD j false) s fun j hj => getD_set_ne false fun h => e (h ▸ hj)]
        exact hC'

/-- Two operations that are apart: the one's value makes no difference to the other. -/
theorem fanAt_put {i j : Nat} {oi oj : Oper} {v : Value} (hj : ops[j]? = some oj) (hap : oi.apart ops oj = true) (hsi : ∀ cs b, oi.op ≠ .select cs b) (hsj : ∀ cs b, oj.op ≠ .select cs b) {K : Act → Prop} {a : Act}
    (hy : Fan P ops s C i oi a v) (h : fanAt P ops s C j K (a.put oi.dst v)) : fanAt P ops s C j (fun a' => Fan P ops s C i oi a' v ∧ K (a'.put oi.dst v)) a := by
  obtain ⟨h1, h2, h3⟩ := Oper.apart_spec hap
  unfold fanAt at *
  simp only [hj] at *
  obtain ⟨u, hu, hk⟩ := h
  refine ⟨u, ?_, ?_, by rw [← Act.put_comm a v u h2]; exact hk⟩
  · unfold Fan at *
    rw [wanted_put oj a oi.dst v h1, execOp_put oj hsj a oi.dst v h1] at hu
    exact hu
  · unfold Fan at *
    rw [wanted_put oi a oj.dst u h3, execOp_put oi hsi a oj.dst u h3]
    exact hy

theorem fan_first {n i : Nat} {oi : Oper} {v : Value} {L : Array Bool → Act → Prop} (hi : ops[i]? = some oi) (hsel : ∀ (j : Nat) (o : Oper) cs b, ops[j]? = some o → o.op ≠ .select cs b)
    (hs : Region.sinkB md ops n = true) (hc : Region.chainB md ops n = true) (hn : n < ops.size) (hin : i < n) (hdone : ∀ listed a, L listed a → ∀ j ∈ Region.ready md ops listed, n ≤ j) :
    ∀ (f : Nat) (listed : Array Bool) (a : Act), HeadInv md ops n listed →
      (∀ j oj, ops[j]? = some oj → j ≠ i → listed.getD j true = false → (∀ e ∈ oj.after, Region.binds md e = true → e.on ≠ i) → oi.apart ops oj = true) →
      i ∈ Region.ready md ops listed → Fan P ops s C i oi a v →
      fanHead P md ops s C n L f (listed.setIfInBounds i true) (a.put oi.dst v) → fanHead P md ops s C n L (f + 1) listed a := by
  intro f
  induction f with
  | zero =>
    intro listed a inv _ hr hy H
    refine ⟨fun h => (by rw [h] at hr; cases hr), fun j hj => ?_⟩
    have hjn : j < n := Nat.lt_of_not_le fun h => absurd hj (tail_waits hs hc hn inv _ i rfl hin (mem_ready.1 hr).1 j h)
    refine ⟨hjn, ?_⟩
    by_cases hji : j = i
    · subst hji
      unfold fanAt
      simp only [hi]
      exact ⟨v, hy, H⟩
    · exact absurd (hdone _ _ H j (ready_mono hj hji)) (by omega)
  | succ f ih =>
    intro listed a inv hfree hr hy H
    have hun := (mem_ready.1 hr).1
    refine ⟨fun h => (by rw [h] at hr; cases hr), fun j hj => ?_⟩
    have hjn : j < n := Nat.lt_of_not_le fun h => absurd hj (tail_waits hs hc hn inv _ i rfl hin hun j h)
    refine ⟨hjn, ?_⟩
    by_cases hji : j = i
    · subst hji
      unfold fanAt
      simp only [hi]
      exact ⟨v, hy, H⟩
    · obtain ⟨hjun, oj, hoj, hall⟩ := mem_ready.1 hj
      have hnot : ∀ e ∈ oj.after, Region.binds md e = true → e.on ≠ i := fun e he hb heq => by
        have h1 := hall e he hb
        rw [heq, getD_both hun] at h1
        cases h1
      have h2 := fanAt_put hoj (hfree j oj hoj hji hjun hnot) (fun cs b => hsel i oi cs b hi) (fun cs b => hsel j oj cs b hoj) hy (H.2 j (ready_mono hj hji)).2
      have hfree' : ∀ k ok, ops[k]? = some ok → k ≠ i → (listed.setIfInBounds j true).getD k true = false → (∀ e ∈ ok.after, Region.binds md e = true → e.on ≠ i) → oi.apart ops ok = true := fun k ok hk hki hu hno => by
        refine hfree k ok hk hki ?_ hno
        by_cases hjk : j = k
        · subst hjk; exact hjun
        · rwa [getD_set_ne true hjk] at hu
      refine fanAt_mono (fun a' h3 => ih (listed.setIfInBounds j true) a' (inv.set hj hjn) hfree' (ready_mono hr (Ne.symm hji)) h3.1 ?_) h2
      rw [Array.setIfInBounds_comm _ _ hji]
      exact h3.2

/-! ### What is asked of a region, by the kernel: each operation waits for earlier ones alone; one that does not wait for an earlier one is apart from it; number n waits for all before it; behind n they wait one for the other. -/
def backB : Nat → List Oper → Bool
  | _, [] => true
  | k, o :: l => o.after.all (fun e => !Region.binds .any e || decide (e.on < k)) && backB (k + 1) l
def freeB (ops : Array Oper) (n : Nat) : Nat → List Oper → Bool
  | _, [] => true
  | k, o :: l => (decide (n ≤ k) || l.all fun p => p.after.any (fun e => Region.binds .any e && e.on == k) || o.apart ops p) && freeB ops n (k + 1) l
def sinkAtB (n : Nat) : Option Oper → Bool
  | none => false
  | some o => (List.range n).all fun i => o.after.any fun e => Region.binds .any e && e.on == i
def fanB (l : List Oper) (n : Nat) : Bool :=
  Region.noSelect l.toArray && decide (n < l.length) && backB 0 l && freeB l.toArray n 0 l && (sinkAtB n l[n]? || Region.sinkB .any l.toArray n) && Region.chainB .any l.toArray n

theorem backB_spec : ∀ (l : List Oper) (k : Nat), backB k l = true → ∀ (j : Nat) (o : Oper), l[j]? = some o → ∀ e ∈ o.after, Region.binds .any e = true → e.on < k + j
  | o :: l, k, h, j, o', ho, e, he, hb => by
    simp only [backB, Bool.and_eq_true] at h
    cases j with
    | zero =>
      obtain rfl : o = o' := by simpa using ho
      have := Array.all_eq_true_iff_forall_mem.1 h.1 e he
      simp only [hb, Bool.not_true, Bool.false_or, decide_eq_true_eq] at this
      omega
    | succ j =>
      have := backB_spec l (k + 1) h.2 j o' (by simpa using ho) e he hb
      omega
  | [], _, _, j, o', ho, _, _, _ => by simp at ho

theorem freeB_spec {n : Nat} : ∀ (l : List Oper) (k : Nat), freeB ops n k l = true → ∀ (i j : Nat) (oi oj : Oper), l[i]? = some oi → l[j]? = some oj → i < j → k + i < n →
    (∃ e ∈ oj.after, Region.binds .any e = true ∧ e.on = k + i) ∨ oi.apart ops oj = true
  | o :: l, k, h, i, j, oi, oj, hi, hj, hij, hn => by
    simp only [freeB, Bool.and_eq_true, Bool.or_eq_true, decide_eq_true_eq] at h
    cases j with
    | zero => omega
    | succ j =>
      have hj' : l[j]? = some oj := by simpa using hj
      cases i with
      | zero =>
        obtain rfl : o = oi := by simpa using hi
        rcases h.1 with h1 | h1
        · omega
        · have h2 := List.all_eq_true.1 h1 oj (List.mem_of_getElem? hj')
          simp only [Bool.or_eq_true] at h2
          rcases h2 with h2 | h2
          · obtain ⟨e, he, hb⟩ := Array.any_eq_true'.1 h2
            simp only [Bool.and_eq_true, beq_iff_eq] at hb
            exact .inl ⟨e, he, hb.1, by omega⟩
          · exact .inr h2
      | succ i =>
        rcases freeB_spec l (k + 1) h.2 i j oi oj (by simpa using hi) hj' (by omega) (by omega) with ⟨e, he, hb, ho⟩ | h2
        · exact .inl ⟨e, he, hb, by omega⟩
        · exact .inr h2
  | [], _, _, i, j, _, _, hi, _, _, _ => by simp at hi

/-- Just the first k operations have come up. -/
def Upto (ops : Array Oper) (k : Nat) (listed : Array Bool) : Prop := listed.size = ops.size ∧ ∀ j, j < ops.size → listed.getD j true = decide (j < k)

theorem Upto.yes {k j : Nat} {listed : Array Bool} (h : Upto ops k listed) (hj : j < ops.size) (hk : j < k) : listed.getD j false = true := by
  have h1 := h.2 j hj
  have hz := h.1
  rw [decide_eq_true hk] at h1
  simpa [show j < listed.size by omega] using h1
theorem Upto.no {k j : Nat} {listed : Array Bool} (h : Upto ops k listed) (hu : listed.getD j false = true) : j < k := by
  have hz := h.1
  by_cases hj : j < ops.size
  · have h1 := h.2 j hj
    have h2 : listed.getD j true = true := by simpa [show j < listed.size by omega] using hu
    rw [h2] at h1
    simpa using h1.symm
  · exfalso
    simp [Array.getElem?_eq_none (show listed.size ≤ j by omega)] at hu
theorem Upto.set {k : Nat} {listed : Array Bool} (h : Upto ops k listed) (hk : k < ops.size) : Upto ops (k + 1) (listed.setIfInBounds k true) := by
  refine ⟨by simp [h.1], fun j hj => ?_⟩
  by_cases e : k = j
  · subst e; have := h.1; simp [show k < listed.size by omega]
  · rw [getD_set_ne true e, h.2 j hj, decide_eq_decide]; omega
theorem Upto.start : Upto ops 0 (Array.replicate ops.size false) := ⟨by simp, fun j hj => by rw [getD_in (by simpa using hj) (getD_replicate_false _ _)]; simp⟩
theorem Upto.flag {k : Nat} {listed : Array Bool} (h : Upto ops k listed) (hk : k ≤ ops.size) (hs : spB ops k s = true) : lvl (fun j => listed.getD j false) s = s.length :=
  lvl_eq _ s _ (Nat.le_refl _) (fun j i hj hi => h.yes (by have := spB_lt hs (List.mem_of_getElem? hi); omega) (spB_lt hs (List.mem_of_getElem? hi))) (fun i hi => by simp at hi)

theorem Upto.ready {k : Nat} {listed : Array Bool} (h : Upto ops k listed) (hback : backB 0 ops.toList = true) (hk : k < ops.size) : k ∈ Region.ready .any ops listed := by
  refine mem_ready.2 ⟨by rw [h.2 k hk]; simp, ops[k], Array.getElem?_eq_getElem hk, fun e he hb => ?_⟩
  have := backB_spec _ 0 hback k ops[k] (by simp) e he hb
  exact h.yes (by omega) (by omega)

theorem Upto.head {k n : Nat} {listed : Array Bool} (h : Upto ops k listed) (hback : backB 0 ops.toList = true) (hk : k ≤ n) : HeadInv .any ops n listed :=
  ⟨h.1, fun j oj hj hl e he hb => by
    have h1 := backB_spec _ 0 hback j oj (by simpa using hj) e he hb
    have h2 := h.no hl
    have h3 := (Array.getElem?_eq_some_iff.1 hj).1
    exact h.yes (by omega) (by omega), fun t ht ht' => by rw [h.2 t ht']; simp; omega⟩

theorem fan_lex {n : Nat} {Q : Act → Prop} (hsel : Region.noSelect ops = true) (hback : backB 0 ops.toList = true) (hfr : freeB ops n 0 ops.toList = true) (hs : Region.sinkB .any ops n = true) (hc : Region.chainB .any ops n = true) (hn : n < ops.size) :
    ∀ (l : List Oper) (k : Nat) (listed : Array Bool) (a : Act), (∀ j, j < l.length → l[j]? = ops[k + j]?) → k + l.length = n → Upto ops k listed → Walks P ops s C Q k l a →
    fanHead P .any ops s C n (fun listed' a' => Upto ops n listed' ∧ Q a') l.length listed a
  | [], k, listed, a, _, hk, hu, h => by
    have : k = n := by simpa using hk
    subst this
    exact ⟨hu, h⟩
  | o :: l, k, listed, a, hl, hk, hu, h => by
    have h0 : ops[k]? = some o := by simpa using (hl 0 (by simp)).symm
    have hkn : k < n := by simp only [List.length_cons] at hk; omega
    obtain ⟨v, hy, hK⟩ := h
    refine fan_first h0 (Region.noSelect_spec hsel) hs hc hn hkn (fun listed' a' hL j hj => ?_) l.length listed a (hu.head hback (by omega)) (fun j oj hj hji hun hno => ?_) (hu.ready hback (by omega)) hy
      (fan_lex hsel hback hfr hs hc hn l (k + 1) _ _ (fun j hj => by have := hl (j + 1) (by simp; omega); simpa [Nat.add_assoc, Nat.add_comm 1 j] using this) (by simp only [List.length_cons] at hk; omega) (hu.set (by omega)) hK)
    · have h1 := (mem_ready.1 hj).1
      rw [hL.1.2 j (ready_lt hj)] at h1
      simpa using h1
    · have hjl := (Array.getElem?_eq_some_iff.1 hj).1
      rw [hu.2 j hjl] at hun
      have hkj : k < j := by have : ¬ j < k := by simpa using hun
                             omega
      rcases freeB_spec _ 0 hfr k j o oj (by simpa using h0) (by simpa using hj) hkj (by omega) with ⟨e, he, hb, ho⟩ | h2
      · exact absurd (by omega) (hno e he hb)
      · exact h2

/-- The forced tail. -/
theorem tail_any {n : Nat} {Q : Exit → Act → World → Prop} (hback : backB 0 ops.toList = true) (hc : Region.chainB .any ops n = true) :
    ∀ (l : List Oper) (k : Nat) (listed : Array Bool) (a : Act) (w : World), (∀ j, l[j]? = ops[k + j]?) → n ≤ k → k + l.length = ops.size → Upto ops k listed → wpList P ops Q l a w → wpAny P .any ops Q l.length listed a w
  | [], k, listed, a, w, _, _, hk, hu, h => by
    refine ⟨?_, h⟩
    refine List.eq_nil_iff_forall_not_mem.2 fun j hj => ?_
    have h1 := (mem_ready.1 hj).1
    have h2 := ready_lt hj
    rw [hu.2 j h2] at h1
    simp only [List.length_nil] at hk
    simp at h1; omega
  | o :: l, k, listed, a, w, hl, hnk, hk, hu, h => by
    have h0 : ops[k]? = some o := by simpa using (hl 0).symm
    simp only [List.length_cons] at hk
    have hks : k < ops.size := by omega
    refine ⟨fun h1 => absurd (hu.ready hback hks) (by rw [h1]; simp), fun i hi => ?_⟩
    have hik : i = k := by
      have h1 := (mem_ready.1 hi).1
      have h2 := ready_lt hi
      rw [hu.2 i h2] at h1
      have h3 : ¬ i < k := by simpa using h1
      rcases Nat.lt_or_ge k i with h4 | h4
      · have h5 := List.all_eq_true.1 hc i (List.mem_range.2 h2)
        simp only [Bool.or_eq_true, decide_eq_true_eq] at h5
        rcases h5 with h5 | h5
        · omega
        · obtain ⟨o', ho', e, he, hb, hon⟩ := Region.waitsFor_spec h5
          obtain ⟨_, o2, ho2, hall⟩ := mem_ready.1 hi
          obtain rfl : o' = o2 := Option.some.inj (ho'.symm.trans ho2)
          have h6 := hu.no (hall e he hb)
          omega
      · omega
    subst hik
    have hw : wpOp P ops Q i (wpList P ops Q l) a w := by unfold wpOp; simp only [h0]; exact h
    exact wpOp_mono (fun a' w' h' => tail_any hback hc l (i + 1) _ a' w' (fun j => by have := hl (j + 1); simpa [Nat.add_assoc, Nat.add_comm 1 j] using this) (by omega) (by omega) (hu.set hks) h') hw

theorem wp_region_fan {id : Nat} {Q : Exit → Act → World → Prop} {a : Act} {w : World} {l : List Oper} (n : Nat) (s : List Nat) (C : Nat → World → Prop) (hm : P.follows .mixedOrders = true) (hB : fanB l n = true) (hsp : spB l.toArray n s = true) (hC : C 0 w.drew)
    (h : Walks P l.toArray s C (fun a' => ∀ w', C s.length w' → wpList P l.toArray Q (l.drop n) a' w') 0 (l.take n) a) : (Code.region id l.toArray true).wp P Q a w := by
  simp only [fanB, Bool.and_eq_true, decide_eq_true_eq] at hB
  obtain ⟨⟨⟨⟨⟨hsel, hn'⟩, hback⟩, hfr⟩, hsk⟩, hc⟩ := hB
  have hn : n < l.toArray.size := by simpa using hn'
  have hs : Region.sinkB .any l.toArray n = true := by
    rw [Bool.or_eq_true] at hsk
    rcases hsk with hsk | hsk
    case inr => exact hsk
    refine List.all_eq_true.2 fun i hi => List.any_eq_true.2 ⟨n, List.mem_range.2 (by omega), ?_⟩
    have hi' := List.mem_range.1 hi
    rw [List.getElem?_eq_getElem hn'] at hsk
    have h1 := List.all_eq_true.1 hsk i hi
    simp only [Bool.and_eq_true, decide_eq_true_eq]
    refine ⟨hi', ?_⟩
    unfold Region.waitsFor
    rw [show l.toArray[n]? = some l[n] by simp [hn']]
    exact h1
  have htl : (l.take n).length = n := by simp; omega
  have H := fan_lex (ops := l.toArray) hsel (by simpa using hback) (by simpa using hfr) hs hc hn (l.take n) 0 _ a (fun j hj => by
    have hj' : j < n := by rw [htl] at hj; exact hj
    simp [hj']) (by simpa using htl) Upto.start h
  refine wp_region_any hm ?_
  have := wpAny_of_fan (Q := Q) hsp (g := l.toArray.size - n) (fun listed a' w' hC' hL => by
    have := tail_any (n := n) (Q := Q) (ops := l.toArray) (by simpa using hback) hc (l.drop n) n listed a' w' (fun j => by simp [List.getElem?_drop]) (Nat.le_refl _) (by simp; omega) hL.1 (hL.2 w' (by rw [← hL.1.flag (Nat.le_of_lt hn) hsp]; exact hC'))
    rwa [show (l.drop n).length = l.toArray.size - n by simp] at this) _ _ _ w.drew (by simp) (fun j oj _ hl => by rw [getD_replicate_false] at hl; cases hl) (by rw [show lvl (fun j => (Array.replicate l.toArray.size false).getD j false) s = 0 from lvl_eq _ s 0 (Nat.zero_le _) (fun j i hj => absurd hj (by omega)) (fun i _ => getD_replicate_false _ _)]; exact hC) H
  rw [htl, show n + (l.toArray.size - n) = l.toArray.size by omega] at this
  exact this
end

end Go.Proofs.Ytjflgblplmgjlaa.F2
