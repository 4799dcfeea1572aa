/- Put together by merge.py: Inv, Kfw, Tab, TabJ, Mk, Kfv, Kfl, Kab, Kac. -/
import Derived.Test.YtijkoaggcmgjiaaStep
import Derived.Test.YtijkoaggcmgjiaaFanB
import Derived.Test.YtijkoaggcmgjiaaFew
import Derived.Test.YtijkoaggcmgjiaaFra
import Derived.Lib.SliceRun
import Derived.Test.YtijkoaggcmgjiaaSeq
import Derived.Test.YtijkoaggcmgjiaaFrd
import Derived.Test.YtijkoaggcmgjiaaFllO
import Derived.Test.YtijkoaggcmgjiaaRect
import Derived.Test.YtijkoaggcmgjiaaEqr
import Derived.Test.YtijkoaggcmgjiaaMgD
import Derived.Test.YtijkoaggcmgjiaaAre
import Derived.Test.YtijkoaggcmgjiaaWin
import Derived.Test.YtijkoaggcmgjiaaRwn

/- A region that draws its order, by an invariant over what has come up: where an operation's value depends on the order (a new block's number). -/
namespace Go.Proofs.Ytijkoaggcmgjiaa.Iv
open Go Go.RowKit
set_option linter.unusedVariables false

section
variable {P : Program} {ops : Array Oper}

/-- What an operation's run has to leave. -/
def Does (P : Program) (K : Value → World → Prop) : Result Next → Prop
  | .ok (.value v) w' => K v w'
  | .ok .skip w' => K undef w'
  | .ok (.enter f args) w' => Calls P f args w' fun e w'' => ∃ v, e = .returned v ∧ K v w''
  | _ => False

def mark (L : Nat → Bool) (i : Nat) : Nat → Bool := fun j => bif Nat.beq j i then true else L j
def put (f : Nat → Value) (d : Option Tmp) (v : Value) : Nat → Value := match d with
  | some d => upd f d v
  | none => f
/-- Operation number i, wherever it may come up. -/
def StepOk (P : Program) (ops : Array Oper) (n : Nat) (I : (Nat → Bool) → (Nat → Value) → World → Prop) (i : Nat) (o : Oper) : Prop :=
  (∀ d, o.dst = some d → d < n) ∧ ∀ L f w, L i = false → (∀ e ∈ o.after, Region.binds .any e = true → L e.on = true) → I L f w →
    (Region.wanted o (yieldE ops f) = true → Does P (fun v w' => I (mark L i) (put f o.dst v) w') ((execOp (env f) o).run P w)) ∧
    (Region.wanted o (yieldE ops f) = false → I (mark L i) (put f o.dst undef) w)
def Steps (P : Program) (ops : Array Oper) (n : Nat) (I : (Nat → Bool) → (Nat → Value) → World → Prop) : Nat → List Oper → Prop
  | _, [] => True
  | i, o :: r => StepOk P ops n I i o ∧ Steps P ops n I (i + 1) r
theorem Steps.at_ {n : Nat} {I : (Nat → Bool) → (Nat → Value) → World → Prop} : ∀ (l : List Oper) (k : Nat), Steps P ops n I k l → ∀ (j : Nat) (o : Oper), l[j]? = some o → StepOk P ops n I (k + j) o
  | o :: l, k, h, 0, o', ho => by obtain rfl : o = o' := by simpa using ho
                                  exact h.1
  | o :: l, k, h, j + 1, o', ho => by
    have := Steps.at_ l (k + 1) h.2 j o' (by simpa using ho)
    rwa [show k + 1 + j = k + (j + 1) by omega] at this
  | [], k, _, j, o', ho => by simp at ho

def un (f : Nat → Bool) : Nat → Nat
  | 0 => 0
  | n + 1 => un f n + (bif f n then 0 else 1)
theorem un_congr {f g : Nat → Bool} : ∀ n, (∀ j, j < n → f j = g j) → un f n = un g n
  | 0, _ => rfl
  | n + 1, h => by simp only [un]; rw [un_congr n fun j hj => h j (by omega), h n (by omega)]
theorem un_set {f g : Nat → Bool} {i : Nat} (hf : f i = false) (hg : g i = true) (h : ∀ j, j ≠ i → g j = f j) : ∀ n, i < n → un g n + 1 = un f n
  | n + 1, hn => by
    simp only [un]
    by_cases e : i = n
    · subst e
      rw [hf, hg, un_congr i fun j hj => h j (by omega)]
      simp
    · rw [h n (by omega), ← un_set hf hg h n (by omega)]
      omega
theorem un_pos {f : Nat → Bool} {i : Nat} (hf : f i = false) : ∀ n, i < n → 1 ≤ un f n
  | n + 1, hn => by
    simp only [un]
    by_cases e : i = n
    · subst e; rw [hf]; simp
    · have := un_pos hf n (by omega); omega

theorem all_of_ready {listed : Array Bool} (hz : listed.size = ops.size) (hback : F2.backB 0 ops.toList = true) (h : Region.ready .any ops listed = []) : ∀ i, i < ops.size → listed.getD i false = true := by
  intro i
  induction i using Nat.strongRecOn with
  | _ i ih =>
    intro hi
    cases hl : listed.getD i false
    · exfalso
      have : i ∈ Region.ready .any ops listed := mem_ready.2 ⟨getD_in (by omega) hl, ops[i], Array.getElem?_eq_getElem hi, fun e he hb => by
        have h1 := F2.backB_spec _ 0 hback i ops[i] (by simp [hi]) e he hb
        exact ih e.on (by omega) (by omega)⟩
      rw [h] at this
      cases this
    · rfl

theorem wpAny_inv {n : Nat} {I : (Nat → Bool) → (Nat → Value) → World → Prop} {Q : Exit → Act → World → Prop} (hback : F2.backB 0 ops.toList = true) (hst : Steps P ops n I 0 ops.toList)
    (hend : ∀ L f a w, (∀ i, i < ops.size → L i = true) → I L f w → Is a n f → Q .normal a w) :
    ∀ (fuel : Nat) (listed : Array Bool) (f : Nat → Value) (a : Act) (w : World), listed.size = ops.size → un (fun j => listed.getD j false) ops.size ≤ fuel → I (fun j => listed.getD j false) f w → Is a n f → wpAny P .any ops Q fuel listed a w
  | fuel, listed, f, a, w, hz, hu, hI, ha => by
    have fin : Region.ready .any ops listed = [] → Q .normal a w := fun h => hend _ f a w (all_of_ready hz hback h) hI ha
    cases fuel with
    | zero =>
      have hr : Region.ready .any ops listed = [] := List.eq_nil_iff_forall_not_mem.2 fun i hi => by
        have := un_pos (f := fun j => listed.getD j false) (getD_both (mem_ready.1 hi).1) ops.size (F2.ready_lt hi)
        omega
      exact ⟨hr, fin hr⟩
    | succ fuel =>
      refine ⟨fin, fun i hi => ?_⟩
      obtain ⟨hun, o, ho, hall⟩ := mem_ready.1 hi
      have hlt := F2.ready_lt hi
      obtain ⟨hd, hs⟩ := Steps.at_ _ 0 hst i o (by simpa using ho)
      obtain ⟨hyes, hno⟩ := hs (fun j => listed.getD j false) f w (by rw [Nat.zero_add]; exact getD_both hun) hall hI
      rw [Nat.zero_add] at hyes hno
      have hL : (fun j => (listed.setIfInBounds i true).getD j false) = mark (fun j => listed.getD j false) i := by
        funext j
        unfold mark
        by_cases e : i = j
        · subst e
          rw [Nat.beq_refl]
          simp [show i < listed.size by omega]
        · rw [getD_set_ne false e]
          have : Nat.beq j i = false := by
            cases h : Nat.beq j i
            · rfl
            · exact absurd (Nat.eq_of_beq_eq_true h).symm e
          rw [this]
          rfl
      have next : ∀ v w', I (mark (fun j => listed.getD j false) i) (put f o.dst v) w' → wpAny P .any ops Q fuel (listed.setIfInBounds i true) (a.put o.dst v) w' := fun v w' hI' => by
        refine wpAny_inv hback hst hend fuel _ (put f o.dst v) _ w' (by simp [hz]) ?_ (by rw [hL]; exact hI') ?_
        · have := un_set (f := fun j => listed.getD j false) (g := fun j => (listed.setIfInBounds i true).getD j false) (i := i) (getD_both hun) (by simp [show i < listed.size by omega]) (fun j hj => getD_set_ne false (Ne.symm hj)) ops.size hlt
          omega
        · cases hdst : o.dst with
          | none => exact ha
          | some d => exact ha.put (hd d hdst) v
      unfold wpOp
      simp only [ho]
      have hy : yielded ops a.tmps = yieldE ops f := ha.yields ops
      by_cases hw : Region.wanted o (yielded ops a.tmps) = true
      · rw [if_pos hw]
        refine .inl ?_
        have h1 := hyes (by rw [← hy]; exact hw)
        unfold Oper.wp
        rw [ha.eval]
        generalize (execOp (env f) o).run P w = r at h1
        cases r with
        | ok nx w' =>
          cases nx <;> simp only [Does] at h1 <;> simp only [Oper.upon]
          case value v => exact next v w' h1
          case skip => exact next undef w' h1
          case enter g args =>
            exact h1.mono fun e w'' ⟨v, he, hv⟩ => by subst he; exact next v w'' hv
        | halt x w' => simp only [Does] at h1
      · rw [if_neg hw]
        exact next undef w (hno (by rw [← hy]; simpa using hw))

theorem wp_region_inv {id n : Nat} {Q : Exit → Act → World → Prop} {a : Act} {w : World} {l : List Oper} (I : (Nat → Bool) → (Nat → Value) → World → Prop) (f : Nat → Value) (hm : P.follows .mixedOrders = true) (hB : F2.backB 0 l = true) (ha : Is a n f)
    (h0 : I (fun _ => false) f w.drew) (hst : Steps P l.toArray n I 0 l) (hend : ∀ L f a w, (∀ i, i < l.length → L i = true) → I L f w → Is a n f → Q .normal a w) : (Code.region id l.toArray true).wp P Q a w := by
  refine wp_region_any hm ?_
  refine wpAny_inv (I := I) (n := n) (by simpa using hB) (by simpa using hst) (fun L f a w h => hend L f a w (by simpa using h)) _ _ f _ _ (by simp) ?_ ?_ ha
  · have : ∀ m g, un g m ≤ m := fun m g => by
      induction m with
      | zero => exact Nat.le_refl _
      | succ m ih => simp only [un]; cases g m <;> simp <;> omega
    exact this _ _
  · have e : (fun j => (Array.replicate l.toArray.size false).getD j false) = fun _ => false := funext fun j => getD_replicate_false _ _
    rw [e]
    exact h0
end

end Go.Proofs.Ytijkoaggcmgjiaa.Iv

/- keep1's few: at most 4 lines of 8 points, cut to a range. -/
namespace Go.Proofs.Ytijkoaggcmgjiaa
open Go Go.RowKit
attribute [local go_sem] Oper.semAt_some
set_option linter.unusedVariables false
set_option linter.unusedSimpArgs false


/-- The cells of runs, one behind the other. -/
def flatP (ss : List P2) : List Value := ss.flatMap fun s => (pcel s).toList
theorem flatP_cons (s : P2) (r : List P2) : flatP (s :: r) = (pcel s).toList ++ flatP r := rfl
theorem flatP_append (a b : List P2) : flatP (a ++ b) = flatP a ++ flatP b := by simp [flatP]
theorem flatP_length : ∀ ss : List P2, (flatP ss).length = ss.length * 2
  | [] => rfl
  | s :: r => by rw [flatP_cons, List.length_append, flatP_length r]; simp; omega
theorem flatP_get : ∀ (ss : List P2) (i j : Nat) (s : P2), ss[i]? = some s → j < 2 → (flatP ss)[i * 2 + j]? = (pcel s)[j]?
  | [], i, j, s, h, _ => by simp at h
  | g :: r, 0, j, s, h, hj => by
    obtain rfl : g = s := by simpa using h
    rw [flatP_cons, List.getElem?_append_left (by simpa using by omega)]
    simp
  | g :: r, i + 1, j, s, h, hj => by
    have h' : r[i]? = some s := by simpa using h
    rw [flatP_cons, List.getElem?_append_right (by simp; omega)]
    rw [show (i + 1) * 2 + j - (pcel g).toList.length = i * 2 + j by simp; omega]
    exact flatP_get r i j s h' hj

/-- A block whose first cells are those of the runs. -/
theorem pts_block {w : World} {g : Nat} {ss : List P2} (hg : g < w.heap.size) (h : ∀ j u, (flatP ss)[j]? = some u → w.cell? ⟨g, j, none⟩ = some u) : Pts w (some ⟨g, 0, none⟩) ss := fun _ => ⟨_, rfl, hg, fun i s hs => ptAt_of fun j hj => by
  have e : (⟨g, 0, none⟩ : Addr).add (i * 2) = ⟨g, i * 2, none⟩ := by unfold Addr.add; split <;> simp_all
  have e' : (⟨g, i * 2, none⟩ : Addr).add j = ⟨g, i * 2 + j, none⟩ := by unfold Addr.add; split <;> simp_all
  have h1 := flatP_get ss i j s hs hj
  have h2 : (pcel s)[j]? = some ((pcel s)[j]'(by simpa using hj)) := Array.getElem?_eq_getElem _
  rw [e, e', h2]
  exact h _ _ (h1.trans h2)⟩
theorem Var.pts {w : World} {g : Nat} {ss : List P2} {t : TypeId} (h : Var w g (flatP ss).toArray t) : Pts w (some ⟨g, 0, none⟩) ss := pts_block h.lt fun j u hu => by
  rw [h.cell]
  simpa using hu
theorem own_pts {w : World} {B n : Nat} {v : Value} {ss : List P2} (h : w.ownsRow B 40 2 v n (flatP ss)) : ∃ A c, v = .slice A n c ∧ n = ss.length ∧ Pts w A ss := by
  have hl : n = ss.length := by have := h.1; rw [flatP_length] at this; omega
  rcases h.2 with ⟨rfl, h0⟩ | ⟨g, cap, cur, rfl, hB, hg, hnc, hcm, hcs, htake⟩
  · subst h0
    have : ss = [] := List.eq_nil_of_length_eq_zero hl.symm
    subst this
    exact ⟨none, 0, rfl, rfl, Pts.nil _ _⟩
  · refine ⟨some ⟨g, 0, none⟩, cap, rfl, hl, pts_block (Array.getElem?_eq_some_iff.1 hg).1 fun j u hu => ?_⟩
    have := h.cells (g := g) rfl j u hu
    rwa [show (⟨g, 0, none⟩ : Addr).add j = ⟨g, j, none⟩ by unfold Addr.add; split <;> simp_all] at this

theorem infoPt : (Try.prog.info? 40).map (fun i => (i.zero, i.size, i.bytes)) = some (some (ptv ⟨0, 0⟩), 2, 16) := by kernel_rfl

theorem flatP_int (ys : List P2) : ∀ u ∈ flatP ys, u.oneCell' = true := by
  intro u hu
  unfold flatP at hu
  obtain ⟨s, -, h⟩ := List.mem_flatMap.1 hu
  simp only [List.mem_cons, List.not_mem_nil, or_false] at h
  rcases h with rfl | rfl <;> rfl

/-- The slice v holds these runs in a block of its own, above B (or is nil). -/
def OwnP (w : World) (B : Nat) (v : Value) (xs : List P2) : Prop := w.ownsRow B 40 2 v xs.length (flatP xs)
theorem OwnP.nil (w : World) (B : Nat) : OwnP w B (.slice none 0 0) [] := World.ownsRow_nil w B _ 2
theorem OwnP.next {w w' : World} {B : Nat} {v : Value} {xs : List P2} (h : OwnP w B v xs) (hb : Below w.heap.size w w') : OwnP w' B v xs := own_next h hb
theorem OwnP.drew {w : World} {B : Nat} {v : Value} {xs : List P2} (h : OwnP w B v xs) : OwnP w.drew B v xs := h
theorem OwnP.mono {w : World} {B B' : Nat} {v : Value} {xs : List P2} (h : OwnP w B v xs) (hb : B' ≤ B) : OwnP w B' v xs := by
  refine ⟨h.1, ?_⟩
  rcases h.2 with h1 | ⟨g, cap, cur, hv, hB, hh, hr⟩
  · exact .inl h1
  · exact .inr ⟨g, cap, cur, hv, Nat.le_trans hb hB, hh, hr⟩
theorem OwnP.keep {w w' : World} {B : Nat} {v : Value} {xs : List P2} (h : OwnP w B v xs) (hk : ∀ k, v.ownBlock = some k → w'.heap[k]? = w.heap[k]?) : OwnP w' B v xs := by
  refine ⟨h.1, ?_⟩
  rcases h.2 with h1 | ⟨g, cap, cur, hv, hB, hh, hr⟩
  · exact .inl h1
  · exact .inr ⟨g, cap, cur, hv, hB, (hk g (by rw [hv]; rfl)).trans hh, hr⟩

theorem OwnP.is {w : World} {B : Nat} {v : Value} {xs : List P2} (h : OwnP w B v xs) : ∃ A c, v = .slice A xs.length c ∧ Pts w A xs := by
  obtain ⟨A, c, h1, -, h3⟩ := own_pts h
  exact ⟨A, c, h1, h3⟩
theorem OwnP.ge {w : World} {B : Nat} {v : Value} {xs : List P2} (h : OwnP w B v xs) : ∀ k, v.ownBlock = some k → B ≤ k ∧ k < w.heap.size := World.ownsRow.lt h
theorem OwnP.one {w : World} {B : Nat} {v : Value} {xs : List P2} (h : OwnP w B v xs) (hn : xs ≠ []) : ∃ g c, v = .slice (some ⟨g, 0, none⟩) xs.length c ∧ B ≤ g ∧ g < w.heap.size ∧ xs.length ≤ c := by
  obtain ⟨g, cap, h1, h2, h3⟩ := World.ownsRow.form h (List.length_pos_iff.2 hn)
  subst h1
  exact ⟨g, cap, rfl, own_at h⟩

/-- append of one run, out of a literal's block. -/
theorem append_pt {w : World} {B : Nat} {v : Value} {xs : List P2} {s : P2} {ty : TypeId} (hB : B ≤ w.heap.size) (hown : OwnP w B v xs) (hl : xs.length ≤ 5000000000) :
    ∃ v' w', (Builtin.append_ #[36, 36] ty #[v, .slice (some ⟨w.heap.size, 0, none⟩) 1 1]).run Try.prog (w.alloc (.cells (pcel s) 40)) = .ok v' w' ∧ OwnP w' B v' (xs ++ [s]) ∧ Gr v v' w w' := by
  obtain ⟨i0, hi, hz0, hz1, hz2⟩ := info_parts infoPt
  have hown1 := World.ownsRow.alloc hown (.cells (pcel s) 40)
  obtain ⟨g, c, w', h1, h2, h3, h4, h5⟩ := run_append_lies (P := Try.prog) (w := w.alloc (.cells (pcel s) 40)) 36 ty B 40 i0 _ 2 16 Try.underlying36 hi hz0 hz1 hz2 rfl (by decide) v xs.length (flatP xs) hown1
    ⟨w.heap.size, 0, none⟩ 1 1 (pcel s).toList rfl (fun j u hu => by
      have hV := (Var.new w (pcel s) 40 _ rfl).cell j
      rw [show (⟨w.heap.size, 0, none⟩ : Addr).add j = ⟨w.heap.size, j, none⟩ by unfold Addr.add; split <;> simp_all, hV]
      simpa using hu) (fun u hu => by
      simp only [List.mem_cons, List.not_mem_nil, or_false] at hu
      rcases hu with rfl | rfl <;> rfl) (by decide) (by unfold maxLen; omega) (by omega) (by simp; omega) _ rfl
  refine ⟨_, w', h1, ?_, ?_⟩
  · unfold OwnP
    rw [flatP_append, List.length_append]
    simpa [flatP] using h2
  · refine (Gr.of_below (v := v) ((Below.refl w.heap.size w).alloc (Nat.le_refl _) (.cells (pcel s) 40))).trans ⟨h3, fun k hk => ?_⟩
    rcases h4 with h4 | h4
    · refine .inl (h4.trans ?_)
      simpa [Value.ownBlock] using hk
    · refine .inr ?_
      have : g = k := by simpa [Value.ownBlock] using hk
      omega


theorem run_litP0 {ρ : Operand → Value} {dst : Option Tmp} {ty : TypeId} {pos : String} {af : Array Edge} {w : World} {gd : Option (Nat × Bool)} :
    (execOp ρ { dst := dst, op := .buildSlice 36 0 #[], type := ty, pos := pos, after := af, guard := gd }).run Try.prog w = .ok (.value (.slice (some ⟨w.heap.size, 0, none⟩) 0 0)) (w.alloc (.cells #[] 40)) := by
  go_simp

/-! ### cut -/
def cutV (m x : Int) : Int := -m + x.tmod (m - -m + 1) % (m - -m + 1)
theorem cutV_in {m : Int} (hm : 0 ≤ m) (x : Int) : -m ≤ cutV m x ∧ cutV m x ≤ m := by
  unfold cutV
  have t3 := Int.emod_nonneg (x.tmod (m - -m + 1)) (show m - -m + 1 ≠ 0 by omega)
  have t4 := Int.emod_lt_of_pos (x.tmod (m - -m + 1)) (show 0 < m - -m + 1 by omega)
  omega
def cutP (m : Int) (p : P2) : P2 := ⟨cutV m p.x, cutV m p.y⟩
theorem kcut_val (x lo hi : Int) (w : World) (h : lo ≤ hi) (hn : hi - lo < 4611686018427387904) (hl : -4611686018427387904 ≤ lo) (hh : hi ≤ 4611686018427387904) :
    Calls Try.prog 52 #[.int .i64 x, .int .i64 lo, .int .i64 hi] w fun e w' => e = .returned (.int .i64 (lo + x.tmod (hi - lo + 1) % (hi - lo + 1))) ∧ w = w' := by
  have t1 := Int.lt_tmod_of_pos x (show 0 < hi - lo + 1 by omega)
  have t2 := Int.tmod_lt_of_pos x (show 0 < hi - lo + 1 by omega)
  have t3 := Int.emod_nonneg (x.tmod (hi - lo + 1)) (show hi - lo + 1 ≠ 0 by omega)
  have t4 := Int.emod_lt_of_pos (x.tmod (hi - lo + 1)) (show 0 < hi - lo + 1 by omega)
  go_enter Try.func52, Try.ntmps52
  go_wp2
  go_ret
  exact ⟨rfl, rfl⟩
theorem kcut_any (x m : Int) (w : World) (hm : 0 ≤ m ∧ m ≤ 1000000000) :
    Calls Try.prog 52 #[.int .i64 x, .int .i64 (-m), .int .i64 m] w fun e w' => e = .returned (.int .i64 (cutV m x)) ∧ w = w' :=
  kcut_val x (-m) m w (by omega) (by omega) (by omega) (by omega)
theorem enters_kcut : Enters Try.prog 52 := enters_of Try.func52 (by kernel_rfl) rfl

/-! ### lines with rows of points of their own -/
abbrev lev (e : LE) : Value := .slice e.A e.ps.length e.c
/-- A finished line. -/
structure FinE (w : World) (v : Value) (e : LE) : Prop where
  p : Pts w e.A e.ps
  le : e.ps.length ≤ e.c ∧ e.c ≤ maxLen
  lt : ∀ q, (lev e).ownBlock = some q → q < w.heap.size
  ap : apart v (lev e)
theorem pts_gr {W w : World} {v v' : Value} {A : Option Addr} {n c : Nat} {xs : List P2} (h : Pts W A xs) (hg : Gr v v' W w) (hne : apart v (.slice A n c)) : Pts w A xs := fun hn => by
  obtain ⟨a, rfl, hl, hr⟩ := h hn
  have hne2 : v.ownBlock ≠ some a.block := fun e => hne _ e rfl
  have hk : ∀ p : Addr, p.block = a.block → w.cell? p = W.cell? p := fun p hp => World.cell?_of_block (by rw [hp]; exact hg.block hl hne2)
  refine ⟨a, rfl, Nat.lt_of_lt_of_le hl hg.size, fun i s hi => ?_⟩
  have := hr i s hi
  exact ⟨(hk _ (add_block _ _)).trans this.c0, (hk ⟨(a.add (i * 2)).block, (a.add (i * 2)).off + 1, none⟩ (add_block a (i * 2))).trans this.c1⟩
theorem FinE.gr {W w : World} {v u u' : Value} {e : LE} (h : FinE W v e) (hg : Gr u u' W w) (ha : apart u (lev e)) : FinE w v e :=
  ⟨pts_gr h.p hg ha, h.le, fun q hq => Nat.lt_of_lt_of_le (h.lt q hq) hg.size, h.ap⟩
theorem FinE.next {W w : World} {v : Value} {e : LE} (h : FinE W v e) (hb : Below W.heap.size W w) : FinE w v e :=
  ⟨h.p.next hb, h.le, fun q hq => Nat.lt_of_lt_of_le (h.lt q hq) hb.size, h.ap⟩
/-- What few holds between two lines. -/
structure KO (B : Nat) (w0 w : World) (v : Value) (es : List LE) : Prop where
  be : Below B w0 w
  r : w.ownsRow B 38 2 v es.length (lflE es)
  p : ∀ e ∈ es, FinE w v e
theorem KO.ge {B : Nat} {w0 w : World} {v : Value} {es : List LE} (h : KO B w0 w v es) : ∀ q, v.ownBlock = some q → B ≤ q ∧ q < w.heap.size := World.ownsRow.lt h.r
theorem KO.next {B : Nat} {w0 w w' : World} {v : Value} {es : List LE} (h : KO B w0 w v es) (hB : B ≤ w.heap.size) (hb : Below w.heap.size w w') : KO B w0 w' v es :=
  ⟨h.be.trans (hb.mono hB), own_next h.r hb, fun e he => (h.p e he).next hb⟩
/-- What few holds within a line. -/
structure KF (B : Nat) (w0 w : World) (v : Value) (es : List LE) (b : Nat) (vp : Value) (ps : List P2) (cl : Bool) : Prop where
  o : KO B w0 w v es
  bB : B ≤ b
  x : Var w b #[vp, .bool cl] 38
  po : OwnP w B vp ps
  PV : apart vp v
  PE : ∀ e ∈ es, apart vp (lev e)
  BV : apart (yb b) v
  BP : apart (yb b) vp
  BE : ∀ e ∈ es, apart (yb b) (lev e)
theorem KO.line {B : Nat} {w0 w : World} {v : Value} {es : List LE} (h : KO B w0 w v es) (hB : B ≤ w.heap.size) (cl : Bool) : KF B w0 (w.alloc (.cells #[.slice none 0 0, .bool cl] 38)) v es w.heap.size (.slice none 0 0) [] cl := by
  have hb := (Below.refl w.heap.size w).alloc (Nat.le_refl _) (.cells #[.slice none 0 0, .bool cl] 38)
  have far : ∀ u : Value, (∀ q, u.ownBlock = some q → q < w.heap.size) → apart (yb w.heap.size) u := fun u hu q h1 h2 => by
    have := hu q h2
    have := (yb_own _ _).1 h1
    omega
  exact ⟨h.next hB hb, hB, Var.new _ _ _ _ rfl, OwnP.nil _ _, apart.nil _, fun e _ => apart.nil _, far _ fun q hq => (h.ge q hq).2, fun q h1 h2 => (by cases h2), fun e he => far _ (h.p e he).lt⟩
/-- A point more. -/
theorem KF.point {B : Nat} {w0 w w' : World} {v : Value} {es : List LE} {b : Nat} {vp vp' : Value} {ps ps' : List P2} {cl : Bool} (h : KF B w0 w v es b vp ps cl) (hB : B ≤ w.heap.size) (ho : OwnP w' B vp' ps') (hg : Gr vp vp' w w') :
    KF B w0 (w'.setCell ⟨b, 0, none⟩ vp') v es b vp' ps' cl := by
  have hl := fun q hq => (h.o.ge q hq).2
  have hy : ∀ q, (yb b).ownBlock = some q → q < w.heap.size := fun q hq => by
    have := (yb_own _ _).1 hq; subst this; exact h.x.lt
  have hx' : Var w' b #[vp, .bool cl] 38 := h.x.keep (hg.keeps h.BP.symm hy b rfl)
  have PV' := h.PV.gr hg hl
  have PE' : ∀ e ∈ es, apart vp' (lev e) := fun e he => (h.PE e he).gr hg (h.o.p e he).lt
  have PB' : apart vp' (yb b) := h.BP.symm.gr hg hy
  have hs : Gr (yb b) (yb b) w' (w'.setCell ⟨b, 0, none⟩ vp') := Gr.set
  have r' : w'.ownsRow B 38 2 v es.length (lflE es) := by
    refine ⟨h.o.r.1, ?_⟩
    rcases h.o.r.2 with h1 | ⟨g, cap, cur, hv, hBg, hh, hr⟩
    · exact .inl h1
    · exact .inr ⟨g, cap, cur, hv, hBg, (hg.keeps h.PV hl g (by rw [hv]; rfl)).trans hh, hr⟩
  have hl' := fun q (hq : v.ownBlock = some q) => (World.ownsRow.lt r' q hq).2
  have r2 : (w'.setCell ⟨b, 0, none⟩ vp').ownsRow B 38 2 v es.length (lflE es) := by
    refine ⟨r'.1, ?_⟩
    rcases r'.2 with h1 | ⟨g, cap, cur, hv, hBg, hh, hr⟩
    · exact .inl h1
    · exact .inr ⟨g, cap, cur, hv, hBg, (hs.keeps h.BV hl' g (by rw [hv]; rfl)).trans hh, hr⟩
  exact ⟨⟨(h.o.be.trans (hg.below hB fun q hq => (h.po.ge q hq).1)).setCell (p := ⟨b, 0, none⟩) h.bB _, r2, fun e he => ((h.o.p e he).gr hg (h.PE e he)).gr hs (h.BE e he)⟩, h.bB, hx'.set (i := 0) vp',
    ho.keep (hs.keeps PB'.symm fun q hq => (ho.ge q hq).2), PV', PE', h.BV, PB'.symm, h.BE⟩
theorem KF.next {B : Nat} {w0 w w' : World} {v : Value} {es : List LE} {b : Nat} {vp : Value} {ps : List P2} {cl : Bool} (h : KF B w0 w v es b vp ps cl) (hB : B ≤ w.heap.size) (hb : Below w.heap.size w w') : KF B w0 w' v es b vp ps cl :=
  ⟨h.o.next hB hb, h.bB, h.x.next hb, h.po.next hb, h.PV, h.PE, h.BV, h.BP, h.BE⟩
/-- append of one line whose points lie elsewhere. -/
theorem KF.done {B : Nat} {w0 w : World} {v : Value} {es : List LE} {b c : Nat} {A : Option Addr} {ps : List P2} {cl : Bool} {ty : TypeId} (h : KF B w0 w v es b (.slice A ps.length c) ps cl) (hB : B ≤ w.heap.size) (hc : ps.length ≤ c ∧ c ≤ maxLen) (hl : es.length ≤ 5000000000) :
    ∃ v' w', (Builtin.append_ #[22, 22] ty #[v, .slice (some ⟨w.heap.size, 0, none⟩) 1 1]).run Try.prog (w.alloc (.cells (lec ⟨A, c, ps, cl⟩) 38)) = .ok v' w' ∧ KO B w0 w' v' (es ++ [⟨A, c, ps, cl⟩]) := by
  obtain ⟨i0, hi, hz0, hz1, hz2⟩ := info_parts infoLe
  obtain ⟨e, he⟩ : ∃ e : LE, e = ⟨A, c, ps, cl⟩ := ⟨_, rfl⟩
  have hown1 := World.ownsRow.alloc h.o.r (.cells (lec e) 38)
  obtain ⟨g, c', w', h1, h2, h3, h4, h5⟩ := run_append_lies (P := Try.prog) (w := w.alloc (.cells (lec e) 38)) 22 ty B 38 i0 _ 2 32 Try.underlying22 hi hz0 hz1 hz2 rfl (by decide) v es.length (lflE es) hown1
    ⟨w.heap.size, 0, none⟩ 1 1 (lec e).toList rfl (fun j u hu => by
      have hV := (Var.new w (lec e) 38 _ rfl).cell j
      rw [adr0, hV]
      simpa using hu) (fun u hu => by
      simp only [List.mem_cons, List.not_mem_nil, or_false] at hu
      rcases hu with rfl | rfl <;> rfl) (by decide) (by unfold maxLen; omega) (by omega) (by simp; omega) _ rfl
  have hgr : Gr v (.slice (some ⟨g, 0, none⟩) (es.length + 1) c') w w' := by
    refine (Gr.of_below (v := v) ((Below.refl w.heap.size w).alloc (Nat.le_refl _) (.cells (lec e) 38))).trans ⟨h3, fun k hk => ?_⟩
    rcases h4 with h4 | h4
    · refine .inl (h4.trans ?_)
      simpa [Value.ownBlock] using hk
    · refine .inr ?_
      have : g = k := by simpa [Value.ownBlock] using hk
      omega
  have hpl := fun q (hq : (Value.slice A ps.length c).ownBlock = some q) => (h.po.ge q hq).2
  refine ⟨_, w', he ▸ h1, ⟨h.o.be.trans (hgr.below hB fun q hq => (h.o.ge q hq).1), ?_, fun x hx => ?_⟩⟩
  · rw [lflE_append, List.length_append, ← he]
    simpa [lflE] using h2
  · rcases List.mem_append.1 hx with hx | hx
    · have := (h.o.p x hx).gr hgr (h.o.p x hx).ap
      exact { this with ap := (h.o.p x hx).ap.gr hgr (h.o.p x hx).lt }
    · rw [List.mem_singleton] at hx
      subst hx
      obtain ⟨A', c2, e2, hp⟩ := h.po.is
      injection e2 with e3
      subst e3
      exact ⟨pts_gr hp hgr h.PV.symm, hc, fun q hq => Nat.lt_of_lt_of_le (hpl q hq) hgr.size, h.PV.symm.gr hgr hpl⟩
theorem KO.lns {B : Nat} {w0 w : World} {v : Value} {es : List LE} (h : KO B w0 w v es) : ∃ A c, v = .slice A es.length c ∧ LnsE w A es := by
  rcases h.r.2 with ⟨h1, h2⟩ | ⟨g, cap, cur, h1, h3, h4, h5, h6, h7, h8⟩
  · have : es = [] := List.eq_nil_of_length_eq_zero h2
    subst this
    exact ⟨none, 0, h1, LnsE.nil _ _⟩
  · refine ⟨some ⟨g, 0, none⟩, cap, h1, fun _ => ⟨_, rfl, (Array.getElem?_eq_some_iff.1 h4).1, fun i e he => ?_⟩⟩
    have hc : ∀ j u, (lflE es)[j]? = some u → w.cell? ⟨g, j, none⟩ = some u := fun j u hu => by
      have := World.ownsRow.cellAt (h1 ▸ h.r) j (by
        rcases Nat.lt_or_ge j (lflE es).length with k | k
        · rw [lflE_length] at k; exact k
        · rw [List.getElem?_eq_none k] at hu; cases hu)
      rw [this]; exact hu
    obtain ⟨g1, g2⟩ := lflE_get es i e he
    have hp := h.p e (List.mem_of_getElem? he)
    rw [adr0]
    exact ⟨hc _ _ g1, hc _ _ g2, hp.p, hp.le⟩
/-- The lines that few returns. -/
def kfewL (m : Int) (ls : List Ln) : List Ln := (ls.take 4).map fun l => ⟨(l.ps.take 8).map (cutP m), l.cl⟩
end Go.Proofs.Ytijkoaggcmgjiaa

/- A region that draws its order, by a table of what its operations yield: where stores may come ahead of other operations. -/
namespace Go.Proofs.Ytijkoaggcmgjiaa
open Go Go.RowKit
set_option linter.unusedVariables false
set_option linter.unusedSimpArgs false

def slotAt (S : List (Option Nat)) (i : Nat) : Option Nat := (S[i]?).join
def valAt (V : List Value) (i : Nat) : Value := V.getD i undef
/-- What has come up has yielded the table's values; some slots are as they were; and something of the memory. -/
structure TI (S : List (Option Nat)) (V : List Value) (F : List (Nat × Value)) (M : (Nat → Bool) → World → Prop) (L : Nat → Bool) (f : Nat → Value) (w : World) : Prop where
  t : ∀ i d, slotAt S i = some d → L i = true → f d = valAt V i
  x : ∀ p, p ∈ F → f p.1 = p.2
  m : M L w
def fresh (S : List (Option Nat)) (G : List Nat) (i d : Nat) : Bool := (List.range S.length).all (fun j => Nat.beq j i || slotAt S j != some d) && G.all fun g => !(Nat.beq g d)

section
variable {P : Program} {ops : Array Oper} {S : List (Option Nat)} {V : List Value} {F : List (Nat × Value)} {M : (Nat → Bool) → World → Prop}
theorem slot_lt {i d : Nat} (h : slotAt S i = some d) : i < S.length := by
  unfold slotAt at h
  rcases Nat.lt_or_ge i S.length with k | k
  · exact k
  · rw [List.getElem?_eq_none k] at h; cases h
theorem mark_ne {L : Nat → Bool} {i j : Nat} (h : j ≠ i) : Iv.mark L i j = L j := by
  unfold Iv.mark
  have : Nat.beq j i = false := by
    cases e : Nat.beq j i
    · rfl
    · exact absurd (Nat.eq_of_beq_eq_true e) h
  rw [this]
  rfl
theorem mark_le {L : Nat → Bool} {i j : Nat} (h : L j = true) : Iv.mark L i j = true := by
  unfold Iv.mark
  cases Nat.beq j i
  · exact h
  · rfl
theorem TI.step {L : Nat → Bool} {f : Nat → Value} {w w' : World} {i d : Nat} (h : TI S V F M L f w) (hs : slotAt S i = some d) (hfr : fresh S (F.map Prod.fst) i d = true) (hM : M (Iv.mark L i) w') : TI S V F M (Iv.mark L i) (upd f d (valAt V i)) w' := by
  unfold fresh at hfr
  rw [Bool.and_eq_true, List.all_eq_true, List.all_eq_true] at hfr
  refine ⟨fun j d' hj hl => ?_, fun p hp => ?_, hM⟩
  · by_cases e : j = i
    · subst e
      rw [hs] at hj
      cases hj
      exact upd_at f d _
    · have hne : d' ≠ d := by
        have := hfr.1 j (List.mem_range.2 (slot_lt hj))
        intro ed
        subst ed
        have hb : Nat.beq j i = false := by
          cases eb : Nat.beq j i
          · rfl
          · exact absurd (Nat.eq_of_beq_eq_true eb) e
        rw [hb, hj] at this
        simp at this
      rw [upd_ne f _ hne]
      exact h.t j d' hj (by rwa [mark_ne e] at hl)
  · have hne : p.1 ≠ d := by
      have := hfr.2 p.1 (List.mem_map.2 ⟨p, hp, rfl⟩)
      intro ed
      rw [ed, Nat.beq_refl] at this
      cases this
    rw [upd_ne f _ hne]
    exact h.x p hp
theorem TI.skip {L : Nat → Bool} {f : Nat → Value} {w w' : World} {i : Nat} (h : TI S V F M L f w) (hs : slotAt S i = none) (hM : M (Iv.mark L i) w') : TI S V F M (Iv.mark L i) f w' :=
  ⟨fun j d' hj hl => by
    have e : j ≠ i := fun e => by subst e; rw [hs] at hj; cases hj
    exact h.t j d' hj (by rwa [mark_ne e] at hl), h.x, hM⟩

/-- An operation that yields the table's value and leaves the memory. -/
theorem ti_val {n i : Nat} {d : Tmp} {v : Value} {op : Op} {ty : TypeId} {pos : String} {af : Array Edge} (hd : Nat.blt d n = true) (hs : slotAt S i = some d) (hfr : fresh S (F.map Prod.fst) i d = true) (hM : ∀ L w, M L w → M (Iv.mark L i) w)
    (hv : v = valAt V i) (hrun : ∀ L f w, L i = false → (∀ e ∈ af, Region.binds .any e = true → L e.on = true) → TI S V F M L f w → (execOp (env f) { dst := some d, op := op, type := ty, pos := pos, after := af, guard := none }).run P w = .ok (.value v) w) :
    Iv.StepOk P ops n (TI S V F M) i { dst := some d, op := op, type := ty, pos := pos, after := af, guard := none } := by
  subst hv
  refine ⟨fun d' h => by cases h; simpa using hd, fun L f w hL hdep H => ⟨fun _ => ?_, fun h => by cases h⟩⟩
  rw [hrun L f w hL hdep H]
  exact H.step hs hfr (hM L w H.m)
/-- A store. -/
theorem ti_store {n i : Nat} {op : Op} {ty : TypeId} {pos : String} {af : Array Edge} (hs : slotAt S i = none)
    (hrun : ∀ L f w, L i = false → (∀ e ∈ af, Region.binds .any e = true → L e.on = true) → TI S V F M L f w → ∃ w', (execOp (env f) { dst := none, op := op, type := ty, pos := pos, after := af, guard := none }).run P w = .ok .skip w' ∧ M (Iv.mark L i) w') :
    Iv.StepOk P ops n (TI S V F M) i { dst := none, op := op, type := ty, pos := pos, after := af, guard := none } := by
  refine ⟨fun d' h => (by cases h), fun L f w hL hdep H => ⟨fun _ => ?_, fun h => by cases h⟩⟩
  obtain ⟨w', h, hM⟩ := hrun L f w hL hdep H
  rw [h]
  exact H.skip hs hM
end

end Go.Proofs.Ytijkoaggcmgjiaa

/- A region that draws its order, by a table of what its operations yield; what of the memory stands may speak of slots, too (a new block's number). -/
namespace Go.Proofs.Ytijkoaggcmgjiaa
open Go Go.RowKit
set_option linter.unusedVariables false
set_option linter.unusedSimpArgs false

structure TJ (S : List (Option Nat)) (V : List Value) (F : List (Nat × Value)) (M : (Nat → Bool) → (Nat → Value) → World → Prop) (L : Nat → Bool) (f : Nat → Value) (w : World) : Prop where
  t : ∀ i d, slotAt S i = some d → L i = true → f d = valAt V i
  x : ∀ p, p ∈ F → f p.1 = p.2
  m : M L f w

section
variable {P : Program} {ops : Array Oper} {S : List (Option Nat)} {V : List Value} {F : List (Nat × Value)} {M : (Nat → Bool) → (Nat → Value) → World → Prop}
theorem TJ.step {L : Nat → Bool} {f : Nat → Value} {w w' : World} {i d : Nat} {v : Value} (h : TJ S V F M L f w) (hs : slotAt S i = none ∨ slotAt S i = some d ∧ v = valAt V i) (hfr : fresh S (F.map Prod.fst) i d = true) (hM : M (Iv.mark L i) (upd f d v) w') : TJ S V F M (Iv.mark L i) (upd f d v) w' := by
  unfold fresh at hfr
  rw [Bool.and_eq_true, List.all_eq_true, List.all_eq_true] at hfr
  refine ⟨fun j d' hj hl => ?_, fun p hp => ?_, hM⟩
  · by_cases e : j = i
    · subst e
      rcases hs with hs | ⟨hs, hv⟩
      · rw [hs] at hj; cases hj
      · rw [hs] at hj
        cases hj
        rw [upd_at f d _, hv]
    · have hne : d' ≠ d := by
        have := hfr.1 j (List.mem_range.2 (slot_lt hj))
        intro ed
        subst ed
        have hb : Nat.beq j i = false := by
          cases eb : Nat.beq j i
          · rfl
          · exact absurd (Nat.eq_of_beq_eq_true eb) e
        rw [hb, hj] at this
        simp at this
      rw [upd_ne f _ hne]
      exact h.t j d' hj (by rwa [mark_ne e] at hl)
  · have hne : p.1 ≠ d := by
      have := hfr.2 p.1 (List.mem_map.2 ⟨p, hp, rfl⟩)
      intro ed
      rw [ed, Nat.beq_refl] at this
      cases this
    rw [upd_ne f _ hne]
    exact h.x p hp
theorem TJ.skip {L : Nat → Bool} {f : Nat → Value} {w w' : World} {i : Nat} (h : TJ S V F M L f w) (hs : slotAt S i = none) (hM : M (Iv.mark L i) f w') : TJ S V F M (Iv.mark L i) f w' :=
  ⟨fun j d' hj hl => by
    have e : j ≠ i := fun e => by subst e; rw [hs] at hj; cases hj
    exact h.t j d' hj (by rwa [mark_ne e] at hl), h.x, hM⟩

/-- An operation that yields the table's value and leaves the memory. -/
theorem tj_val {n i : Nat} {d : Tmp} {v : Value} {op : Op} {ty : TypeId} {pos : String} {af : Array Edge} (hd : Nat.blt d n = true) (hs : slotAt S i = some d) (hfr : fresh S (F.map Prod.fst) i d = true) (hM : ∀ L f w, M L f w → M (Iv.mark L i) (upd f d v) w)
    (hv : v = valAt V i) (hrun : ∀ L f w, L i = false → (∀ e ∈ af, Region.binds .any e = true → L e.on = true) → TJ S V F M L f w → (execOp (env f) { dst := some d, op := op, type := ty, pos := pos, after := af, guard := none }).run P w = .ok (.value v) w) :
    Iv.StepOk P ops n (TJ S V F M) i { dst := some d, op := op, type := ty, pos := pos, after := af, guard := none } := by
  refine ⟨fun d' h => by cases h; simpa using hd, fun L f w hL hdep H => ⟨fun _ => ?_, fun h => by cases h⟩⟩
  rw [hrun L f w hL hdep H]
  exact H.step (.inr ⟨hs, hv⟩) hfr (hM L f w H.m)
/-- A call that returns the table's value and leaves the older blocks. -/
theorem tj_call {n i : Nat} {d : Tmp} {v : Value} {g : FuncId} {op : Op} {ty : TypeId} {pos : String} {af : Array Edge} (hd : Nat.blt d n = true) (hs : slotAt S i = some d) (hfr : fresh S (F.map Prod.fst) i d = true) (hM : ∀ L f w w', Below w.heap.size w w' → M L f w → M (Iv.mark L i) (upd f d v) w')
    (hv : v = valAt V i) (hrun : ∀ L f w, L i = false → (∀ e ∈ af, Region.binds .any e = true → L e.on = true) → TJ S V F M L f w → ∃ args, (execOp (env f) { dst := some d, op := op, type := ty, pos := pos, after := af, guard := none }).run P w = .ok (.enter g args) w ∧ Calls P g args w fun e w' => e = .returned v ∧ Below w.heap.size w w') :
    Iv.StepOk P ops n (TJ S V F M) i { dst := some d, op := op, type := ty, pos := pos, after := af, guard := none } := by
  refine ⟨fun d' h => by cases h; simpa using hd, fun L f w hL hdep H => ⟨fun _ => ?_, fun h => by cases h⟩⟩
  obtain ⟨args, h1, h2⟩ := hrun L f w hL hdep H
  rw [h1]
  exact h2.mono fun e w' ⟨he, hb⟩ => ⟨v, he, H.step (.inr ⟨hs, hv⟩) hfr (hM L f w w' hb H.m)⟩
/-- A new block. -/
theorem tj_any {n i : Nat} {d : Tmp} {op : Op} {ty : TypeId} {pos : String} {af : Array Edge} (hd : Nat.blt d n = true) (hs : slotAt S i = none) (hfr : fresh S (F.map Prod.fst) i d = true)
    (hrun : ∀ L f w, L i = false → (∀ e ∈ af, Region.binds .any e = true → L e.on = true) → TJ S V F M L f w → ∃ v w', (execOp (env f) { dst := some d, op := op, type := ty, pos := pos, after := af, guard := none }).run P w = .ok (.value v) w' ∧ M (Iv.mark L i) (upd f d v) w') :
    Iv.StepOk P ops n (TJ S V F M) i { dst := some d, op := op, type := ty, pos := pos, after := af, guard := none } := by
  refine ⟨fun d' h => by cases h; simpa using hd, fun L f w hL hdep H => ⟨fun _ => ?_, fun h => by cases h⟩⟩
  obtain ⟨v, w', h1, h2⟩ := hrun L f w hL hdep H
  rw [h1]
  exact H.step (.inl hs) hfr h2
/-- A store. -/
theorem tj_store {n i : Nat} {op : Op} {ty : TypeId} {pos : String} {af : Array Edge} (hs : slotAt S i = none)
    (hrun : ∀ L f w, L i = false → (∀ e ∈ af, Region.binds .any e = true → L e.on = true) → TJ S V F M L f w → ∃ w', (execOp (env f) { dst := none, op := op, type := ty, pos := pos, after := af, guard := none }).run P w = .ok .skip w' ∧ M (Iv.mark L i) f w') :
    Iv.StepOk P ops n (TJ S V F M) i { dst := none, op := op, type := ty, pos := pos, after := af, guard := none } := by
  refine ⟨fun d' h => (by cases h), fun L f w hL hdep H => ⟨fun _ => ?_, fun h => by cases h⟩⟩
  obtain ⟨w', h, hM⟩ := hrun L f w hL hdep H
  rw [h]
  exact H.skip hs hM
end

end Go.Proofs.Ytijkoaggcmgjiaa

/- A region that draws its order: operations that read, a literal's block with one point, an append of it to a row of the call's own, a store of the slice. -/
namespace Go.Proofs.Ytijkoaggcmgjiaa
open Go Go.RowKit
set_option linter.unusedVariables false
set_option linter.unusedSimpArgs false

/-- One waits for the other, in at most n steps. -/
def reach (dep : List (Nat × Nat)) : Nat → Nat → Nat → Bool
  | 0, a, i => Nat.beq a i
  | n + 1, a, i => Nat.beq a i || dep.any fun q => Nat.beq q.1 a && reach dep n q.2 i
theorem reach_on {dep : List (Nat × Nat)} {L : Nat → Bool} (hd : ∀ q ∈ dep, L q.1 = true → L q.2 = true) : ∀ (n a i : Nat), reach dep n a i = true → L a = true → L i = true
  | 0, a, i, h, ha => by have := Nat.eq_of_beq_eq_true h; exact this ▸ ha
  | n + 1, a, i, h, ha => by
    unfold reach at h
    rcases Bool.or_eq_true_iff.1 h with h | h
    · have := Nat.eq_of_beq_eq_true h; exact this ▸ ha
    · obtain ⟨q, hq, h2⟩ := List.any_eq_true.1 h
      obtain ⟨h3, h4⟩ := Bool.and_eq_true_iff.1 h2
      have h5 := Nat.eq_of_beq_eq_true h3
      exact reach_on hd n q.2 i h4 (hd q hq (h5.symm ▸ ha))
/-- The list tells of operation i no more than its edges. -/
def edgesOk (dep : List (Nat × Nat)) (i : Nat) (af : Array Edge) : Bool := dep.all fun q => !(Nat.beq q.1 i) || af.toList.any fun e => Nat.beq e.on q.2 && Region.binds .any e
theorem edges_on {dep : List (Nat × Nat)} {i : Nat} {af : Array Edge} {L : Nat → Bool} (h : edgesOk dep i af = true) (hdep : ∀ e ∈ af, Region.binds .any e = true → L e.on = true) : ∀ q ∈ dep, q.1 = i → L q.2 = true := by
  intro q hq hi
  have h1 := List.all_eq_true.1 h q hq
  rw [hi, Nat.beq_refl] at h1
  simp only [Bool.not_true, Bool.false_or] at h1
  obtain ⟨e, he, h2⟩ := List.any_eq_true.1 h1
  obtain ⟨h3, h4⟩ := Bool.and_eq_true_iff.1 h2
  exact Nat.eq_of_beq_eq_true h3 ▸ hdep e (by simpa using he) h4

/-- oc, oa, os: the numbers of the literal, the append, the store; fc, fa: their slots; the slice is stored at A. -/
structure MK (W : World) (B : Nat) (vo : Value) (xs : List P2) (s : P2) (A : Addr) (oc oa os fc fa : Nat) (dep : List (Nat × Nat)) (L : Nat → Bool) (f : Nat → Value) (w : World) : Prop where
  b : L oa = false → Below W.heap.size W w
  c : L oc = true → L oa = false → ∃ w1, Below W.heap.size W w1 ∧ w = w1.alloc (.cells (pcel s) 40) ∧ f fc = .slice (some ⟨w1.heap.size, 0, none⟩) 1 1
  e : L oa = true → L os = false → ∃ w1, Below W.heap.size W w1 ∧ OwnP w B (f fa) (xs ++ [s]) ∧ Gr vo (f fa) w1 w
  s : L os = true → ∃ w1 wa, Below W.heap.size W w1 ∧ OwnP wa B (f fa) (xs ++ [s]) ∧ Gr vo (f fa) w1 wa ∧ w = wa.setCell A (f fa)
  d : ∀ q ∈ dep, L q.1 = true → L q.2 = true

section
variable {W w w' : World} {B : Nat} {vo : Value} {xs : List P2} {s : P2} {A : Addr} {oc oa os fc fa : Nat} {dep : List (Nat × Nat)} {L : Nat → Bool} {f : Nat → Value} {i d : Nat}
theorem MK.start : MK W B vo xs s A oc oa os fc fa dep (fun _ => false) f W.drew :=
  ⟨fun _ => (Below.refl _ W).drew, fun h => (by cases h), fun h => (by cases h), fun h => (by cases h), fun _ _ h => (by cases h)⟩
theorem MK.pre (h : MK W B vo xs s A oc oa os fc fa dep L f w) (hL : L i = false) (hd : reach dep 12 oa i = true) : L oa = false := by
  cases e : L oa
  · rfl
  · rw [reach_on h.d 12 oa i hd e] at hL; cases hL
theorem MK.old (h : MK W B vo xs s A oc oa os fc fa dep L f w) (hL : L i = false) (hd : reach dep 12 oa i = true) : Below W.heap.size W w := h.b (h.pre hL hd)
/-- A value: the memory stays. -/
theorem MK.next {v : Value} (h : MK W B vo xs s A oc oa os fc fa dep L f w) (hi : (Nat.beq oc i || Nat.beq oa i || Nat.beq os i || Nat.beq fc d || Nat.beq fa d) = false) (hdp : ∀ q ∈ dep, q.1 = i → L q.2 = true) : MK W B vo xs s A oc oa os fc fa dep (Iv.mark L i) (upd f d v) w := by
  simp only [Bool.or_eq_false_iff] at hi
  obtain ⟨⟨⟨⟨h1, h2⟩, h3⟩, h4⟩, h5⟩ := hi
  have ne : ∀ {a b : Nat}, Nat.beq a b = false → a ≠ b := fun h e => by rw [e, Nat.beq_refl] at h; cases h
  have e1 : Iv.mark L i oc = L oc := mark_ne (ne h1)
  have e2 : Iv.mark L i oa = L oa := mark_ne (ne h2)
  have e3 : Iv.mark L i os = L os := mark_ne (ne h3)
  have e4 : upd f d v fc = f fc := upd_ne f v (ne h4)
  have e5 : upd f d v fa = f fa := upd_ne f v (ne h5)
  refine ⟨fun k => h.b (by rwa [e2] at k), fun k k' => ?_, fun k k' => ?_, fun k => ?_, fun q hq k => ?_⟩
  · rw [e4]; exact h.c (by rwa [e1] at k) (by rwa [e2] at k')
  · rw [e5]; exact h.e (by rwa [e2] at k) (by rwa [e3] at k')
  · rw [e5]; exact h.s (by rwa [e3] at k)
  · by_cases e : q.1 = i
    · exact mark_le (hdp q hq e)
    · rw [mark_ne e] at k; exact mark_le (h.d q hq k)
end

section
variable {ops : Array Oper} {S : List (Option Nat)} {V : List Value} {F : List (Nat × Value)} {W : World} {B n i : Nat} {vo : Value} {xs : List P2} {s : P2} {A : Addr} {oc oa os fc fa : Nat} {dep : List (Nat × Nat)} {d : Tmp} {op : Op} {ty : TypeId} {pos : String} {af : Array Edge}
theorem mk_val {v : Value} (hd : Nat.blt d n = true) (hs : slotAt S i = some d) (hfr : fresh S (F.map Prod.fst) i d = true)
    (hi : (Nat.beq oc i || Nat.beq oa i || Nat.beq os i || Nat.beq fc d || Nat.beq fa d) = false) (hE : edgesOk dep i af = true) (hv : v = valAt V i)
    (hrun : ∀ L f w, L i = false → (∀ e ∈ af, Region.binds .any e = true → L e.on = true) → TJ S V F (MK W B vo xs s A oc oa os fc fa dep) L f w → (execOp (env f) { dst := some d, op := op, type := ty, pos := pos, after := af, guard := none }).run Try.prog w = .ok (.value v) w) :
    Iv.StepOk Try.prog ops n (TJ S V F (MK W B vo xs s A oc oa os fc fa dep)) i { dst := some d, op := op, type := ty, pos := pos, after := af, guard := none } :=
  ⟨fun d' h => (by cases h; simpa using hd), fun L f w hL hdep H => ⟨fun _ => (by
    rw [hrun L f w hL hdep H]
    exact H.step (.inr ⟨hs, hv⟩) hfr (H.m.next hi (edges_on hE hdep))), fun h => (by cases h)⟩⟩
/-- A call that leaves the memory. -/
theorem mk_fn {v : Value} {g : FuncId} (hd : Nat.blt d n = true) (hs : slotAt S i = some d) (hfr : fresh S (F.map Prod.fst) i d = true)
    (hi : (Nat.beq oc i || Nat.beq oa i || Nat.beq os i || Nat.beq fc d || Nat.beq fa d) = false) (hE : edgesOk dep i af = true) (hv : v = valAt V i)
    (hrun : ∀ L f w, L i = false → (∀ e ∈ af, Region.binds .any e = true → L e.on = true) → TJ S V F (MK W B vo xs s A oc oa os fc fa dep) L f w → ∃ args, (execOp (env f) { dst := some d, op := op, type := ty, pos := pos, after := af, guard := none }).run Try.prog w = .ok (.enter g args) w ∧ Calls Try.prog g args w fun e w' => e = .returned v ∧ w = w') :
    Iv.StepOk Try.prog ops n (TJ S V F (MK W B vo xs s A oc oa os fc fa dep)) i { dst := some d, op := op, type := ty, pos := pos, after := af, guard := none } := by
  refine ⟨fun d' h => by cases h; simpa using hd, fun L f w hL hdep H => ⟨fun _ => ?_, fun h => by cases h⟩⟩
  obtain ⟨args, h1, h2⟩ := hrun L f w hL hdep H
  rw [h1]
  exact h2.mono fun e w' ⟨he, hb⟩ => ⟨v, he, hb ▸ H.step (.inr ⟨hs, hv⟩) hfr (H.m.next hi (edges_on hE hdep))⟩
/-- The literal. -/
theorem mk_lit (hd : Nat.blt d n = true) (hs : slotAt S i = none) (hfr : fresh S (F.map Prod.fst) i d = true) (hi : oc = i) (hf : fc = d) (ha : Nat.beq oa i = false) (hst : Nat.beq os i = false) (hfa : Nat.beq fa d = false)
    (hao : (oa, oc) ∈ dep) (hso : (os, oa) ∈ dep) (hE : edgesOk dep i af = true)
    (hrun : ∀ L f w, L i = false → (∀ e ∈ af, Region.binds .any e = true → L e.on = true) → TJ S V F (MK W B vo xs s A oc oa os fc fa dep) L f w → (execOp (env f) { dst := some d, op := op, type := ty, pos := pos, after := af, guard := none }).run Try.prog w = .ok (.value (.slice (some ⟨w.heap.size, 0, none⟩) 1 1)) (w.alloc (.cells (pcel s) 40))) :
    Iv.StepOk Try.prog ops n (TJ S V F (MK W B vo xs s A oc oa os fc fa dep)) i { dst := some d, op := op, type := ty, pos := pos, after := af, guard := none } := by
  subst hi hf
  have ne : ∀ {a b : Nat}, Nat.beq a b = false → a ≠ b := fun h e => by rw [e, Nat.beq_refl] at h; cases h
  refine tj_any hd hs hfr fun L f w hL hdep H => ?_
  have hoa : L oa = false := by
    cases e : L oa
    · rfl
    · rw [H.m.d _ hao e] at hL; cases hL
  have hos : L os = false := by
    cases e : L os
    · rfl
    · rw [H.m.d _ hso e] at hoa; cases hoa
  refine ⟨_, _, hrun L f w hL hdep H, fun _ => (H.m.b hoa).alloc (H.m.b hoa).size _, fun _ _ => ⟨w, H.m.b hoa, rfl, by rw [upd_at]⟩, fun k => ?_, fun k => ?_, fun q hq k => ?_⟩
  · rw [mark_ne (ne ha), hoa] at k; cases k
  · rw [mark_ne (ne hst), hos] at k; cases k
  · by_cases e : q.1 = oc
    · exact mark_le (edges_on hE hdep q hq e)
    · rw [mark_ne e] at k; exact mark_le (H.m.d q hq k)
/-- The append. -/
theorem mk_app {x y : Operand} (hd : Nat.blt d n = true) (hs : slotAt S i = none) (hfr : fresh S (F.map Prod.fst) i d = true) (hi : oa = i) (hf : fa = d) (hst : Nat.beq os i = false) (hfc : Nat.beq fc d = false)
    (hl : xs.length ≤ 5000000000) (hB : B ≤ W.heap.size) (hso : (os, oa) ∈ dep) (haf : ∃ e ∈ af, Region.binds .any e = true ∧ e.on = oc) (hE : edgesOk dep i af = true)
    (hop : op = .call { callee := .builtin .append, args := #[x, y], argTypes := #[36, 36] }) (hown : OwnP W B vo xs) (hy : y = .tmp fc)
    (hx : ∀ L f w, (∀ e ∈ af, Region.binds .any e = true → L e.on = true) → TJ S V F (MK W B vo xs s A oc oa os fc fa dep) L f w → env f x = vo) :
    Iv.StepOk Try.prog ops n (TJ S V F (MK W B vo xs s A oc oa os fc fa dep)) i { dst := some d, op := op, type := ty, pos := pos, after := af, guard := none } := by
  subst hi hf hop hy
  have ne : ∀ {a b : Nat}, Nat.beq a b = false → a ≠ b := fun h e => by rw [e, Nat.beq_refl] at h; cases h
  refine tj_any hd hs hfr fun L f w hL hdep H => ?_
  obtain ⟨e, he, hb, hon⟩ := haf
  have hc : L oc = true := hon ▸ hdep e he hb
  have hos : L os = false := by
    cases e : L os
    · rfl
    · rw [H.m.d _ hso e] at hL; cases hL
  obtain ⟨w1, hb1, rfl, hg⟩ := H.m.c hc hL
  obtain ⟨v', w', h1, h2, h3⟩ := append_pt (ty := ty) (s := s) (Nat.le_trans hB hb1.size) (hown.next hb1) hl
  have hxv := hx L f _ hdep H
  have hyv : env f (.tmp fc) = .slice (some ⟨w1.heap.size, 0, none⟩) 1 1 := hg
  refine ⟨v', w', ?_, fun k => ?_, fun _ k => ?_, fun _ _ => ⟨w1, hb1, by rw [upd_at]; exact h2, by rw [upd_at]; exact h3⟩, fun k => ?_, fun q hq k => ?_⟩
  · simp [execOp, resolve, invoke, builtin, hxv, hyv, h1]
  · rw [show Iv.mark L oa oa = true by unfold Iv.mark; rw [Nat.beq_refl]; rfl] at k; cases k
  · rw [show Iv.mark L oa oa = true by unfold Iv.mark; rw [Nat.beq_refl]; rfl] at k; cases k
  · rw [mark_ne (ne hst), hos] at k; cases k
  · by_cases e : q.1 = oa
    · exact mark_le (edges_on hE hdep q hq e)
    · rw [mark_ne e] at k; exact mark_le (H.m.d q hq k)
/-- The store. -/
theorem mk_store {x y : Operand} {t : TypeId} (hs : slotAt S i = none) (hi : os = i) (ha : Nat.beq oa i = false) (haf : ∃ e ∈ af, Region.binds .any e = true ∧ e.on = oa) (hE : edgesOk dep i af = true)
    (hop : op = .store t x y) (hy : y = .tmp fa) (hx : ∀ L f w, (∀ e ∈ af, Region.binds .any e = true → L e.on = true) → TJ S V F (MK W B vo xs s A oc oa os fc fa dep) L f w → env f x = .pointer (some A))
    (hrun : ∀ (ρ : Operand → Value) w1 w v, Below W.heap.size W w1 → OwnP w B v (xs ++ [s]) → Gr vo v w1 w → ρ x = .pointer (some A) → ρ (.tmp fa) = v → (execOp ρ { dst := none, op := .store t x (.tmp fa), type := ty, pos := pos, after := af, guard := none }).run Try.prog w = .ok .skip (w.setCell A v)) :
    Iv.StepOk Try.prog ops n (TJ S V F (MK W B vo xs s A oc oa os fc fa dep)) i { dst := none, op := op, type := ty, pos := pos, after := af, guard := none } := by
  subst hi hop hy
  have ne : ∀ {a b : Nat}, Nat.beq a b = false → a ≠ b := fun h e => by rw [e, Nat.beq_refl] at h; cases h
  refine tj_store hs fun L f w hL hdep H => ?_
  obtain ⟨e, he, hb, hon⟩ := haf
  have hA : L oa = true := hon ▸ hdep e he hb
  obtain ⟨w1, hb1, ho, hg⟩ := H.m.e hA hL
  refine ⟨_, hrun (env f) w1 w (f fa) hb1 ho hg (hx L f w hdep H) rfl, fun k => ?_, fun _ k => ?_, fun _ k => ?_, fun _ => ⟨w1, w, hb1, ho, hg, rfl⟩, fun q hq k => ?_⟩
  · rw [mark_ne (ne ha), hA] at k; cases k
  · rw [mark_ne (ne ha), hA] at k; cases k
  · rw [show Iv.mark L os os = true by unfold Iv.mark; rw [Nat.beq_refl]; rfl] at k; cases k
  · by_cases e : q.1 = os
    · exact mark_le (edges_on hE hdep q hq e)
    · rw [mark_ne e] at k; exact mark_le (H.m.d q hq k)
end

end Go.Proofs.Ytijkoaggcmgjiaa

/- keep1's few: the walk (written by r9_kfw.py). -/
namespace Go.Proofs.Ytijkoaggcmgjiaa
open Go Go.RowKit
attribute [local go_sem] Oper.semAt_some
set_option linter.unusedVariables false
set_option linter.unusedSimpArgs false

section
variable {ρ : Operand → Value} {dst : Option Tmp} {ty : TypeId} {pos : String} {af : Array Edge} {x y : Operand} {w : World} {gd : Option (Nat × Bool)}
theorem run_loadPsv {g : Nat} {v : Value} (hx : ρ x = .pointer (some ⟨g, 0, none⟩)) (hV : w.cell? ⟨g, 0, none⟩ = some v) (hs : ∃ A n c, v = .slice A n c) :
    (execOp ρ { dst := dst, op := .load 36 x, type := ty, pos := pos, after := af, guard := gd }).run Try.prog w = .ok (.value v) w := by
  obtain ⟨A, n, c, rfl⟩ := hs
  go_simp
theorem run_fldP0b {g : Nat} (hx : ρ x = .pointer (some ⟨g, 0, none⟩)) :
    (execOp ρ { dst := dst, op := .fieldAddr 40 x 0, type := ty, pos := pos, after := af, guard := gd }).run Try.prog w = .ok (.value (.pointer (some ⟨g, 0, none⟩))) w := by
  go_simp
theorem run_fldP1b {g : Nat} (hx : ρ x = .pointer (some ⟨g, 0, none⟩)) :
    (execOp ρ { dst := dst, op := .fieldAddr 40 x 1, type := ty, pos := pos, after := af, guard := gd }).run Try.prog w = .ok (.value (.pointer (some ⟨g, 1, none⟩))) w := by
  go_simp
theorem run_bldPt {i j : Int} (hx : ρ x = .int .i64 i) (hy : ρ y = .int .i64 j) :
    (execOp ρ { dst := dst, op := .build 40 #[(0, x), (1, y)], type := ty, pos := pos, after := af, guard := gd }).run Try.prog w = .ok (.value (ptv ⟨i, j⟩)) w := by
  go_simp
theorem run_litPt {s : P2} (hx : ρ x = ptv s) :
    (execOp ρ { dst := dst, op := .buildSlice 36 1 #[(0, x)], type := ty, pos := pos, after := af, guard := gd }).run Try.prog w = .ok (.value (.slice (some ⟨w.heap.size, 0, none⟩) 1 1)) (w.alloc (.cells (pcel s) 40)) := by
  go_simp
theorem run_storePs {a : Addr} {A : Option Addr} {n c : Nat} {u : Value} (hx : ρ x = .pointer (some a)) (hy : ρ y = .slice A n c) (hc : w.cell? a = some u) (hf : w.frozen? a = false) :
    (execOp ρ { dst := dst, op := .store 36 x y, type := ty, pos := pos, after := af, guard := gd }).run Try.prog w = .ok .skip (w.setCell a (.slice A n c)) := by
  go_simp
end
theorem OwnP.cap {w : World} {B : Nat} {v : Value} {xs : List P2} (h : OwnP w B v xs) : ∃ A c, v = .slice A xs.length c ∧ xs.length ≤ c ∧ c ≤ maxLen := by
  rcases h.2 with ⟨h1, h2⟩ | ⟨g, cap, cur, h1, h3, h4, h5, h6, h7, h8⟩
  · exact ⟨none, 0, by rw [h1, h2], by omega, Nat.zero_le _⟩
  · exact ⟨_, cap, h1, h5, h6⟩
theorem wpList_append_Ln {ops : Array Oper} {rest : List Oper} {o : Oper} {a : Act} {Q : Exit → Act → World → Prop} {w w0 : World} {B b n c : Nat} {A : Option Addr} {ps : List P2} {cl : Bool} {v : Value} {es : List LE} (hgd : o.guard = none) (y x : Operand)
    (ho : o.op = .call { callee := .builtin .append, args := #[y, x], argTypes := #[22, 22] }) (hB : B ≤ w.heap.size) (hs : a.eval y = v) (hx : a.eval x = .slice (some ⟨w.heap.size, 0, none⟩) 1 1)
    (h : KF B w0 w v es b (.slice A n c) ps cl) (hn : n = ps.length) (hc : ps.length ≤ c ∧ c ≤ maxLen) (hl : es.length ≤ 5000000000)
    (k : ∀ v' w', KO B w0 w' v' (es ++ [⟨A, c, ps, cl⟩]) → wpList Try.prog ops Q rest (a.put o.dst v') w') : wpList Try.prog ops Q (o :: rest) a (w.alloc (.cells #[.slice A n c, .bool cl] 38)) := by
  subst hn
  obtain ⟨v', w', h1, h2⟩ := KF.done (ty := o.type) h hB hc hl
  refine wpList_plain hgd fun K hK' => ?_
  simp [Oper.wp, execOp, ho, resolve, invoke, builtin, hs, hx, h1, Result.andThen]
  exact hK' _ _ (k v' w' h2)
def cutL (m : Int) (l : Ln) : Ln := ⟨(l.ps.take 8).map (cutP m), l.cl⟩

set_option maxRecDepth 100000 in
set_option maxHeartbeats 8000000 in
theorem kfew_any (A : Option Addr) (es : List LE) (n c : Nat) (most : Int) (w : World) (hn : n = es.length) (hl : n ≤ maxLen) (hE : LnsE w A es) (hm : 0 ≤ most ∧ most ≤ 1000000000) :
    Calls Try.prog 18 #[.slice A n c, .int .i64 most] w fun e w' => (∃ A' c' es', e = .returned (.slice A' es'.length c') ∧ LnsE w' A' es' ∧ es'.map LE.ln = ((es.map LE.ln).take 4).map (cutL most)) ∧ Below w.heap.size w w' := by
  have HE := hid hE
  have HN := hid hn
  have HMO := hid hm
  unfold maxLen at hl
  clear hE hn hm
  go_enter Try.func18, Try.ntmps18
  go_wp2_with fail
  go_loopw [5, 6] (fun s5 s6 wr => ∃ (i : Nat) (v : Value) (es' : List LE), v = s5 ∧ s6 = .int .i64 i ∧ i ≤ n ∧ i ≤ 4 ∧ Hid (KO w.heap.size w wr v es') ∧ Hid (es'.map LE.ln = ((es.map LE.ln).take i).map (cutL most))) (fun _ s6 _ => 4 - (intOf s6).toNat)
  case atStart => exact ⟨0, _, [], rfl, rfl, Nat.zero_le _, Nat.zero_le _, hid ⟨Below.refl _ _, World.ownsRow_nil w _ _ 2, fun e h => (by cases h)⟩, hid rfl⟩
  case round =>
    obtain ⟨wo, rfl⟩ : ∃ wo, wo = wr := ⟨_, rfl⟩
    obtain ⟨i, v, es', rfl, rfl, hi1, hi2, HO, HL⟩ := hrel
    by_cases hlt : i < n
    · by_cases h4 : i < 4
      · have hil : i < es.length := by rw [← HN.out]; exact hlt
        have HBZ := hid (show w.heap.size ≤ wo.heap.size from HO.out.be.size)
        obtain ⟨a, rfl, hal, hsa⟩ := (HE.out.next HO.out.be).at_ hil
        obtain ⟨a0, ea0, hal0, hsa0⟩ := HE.out.at_ hil
        cases ea0
        have HLE0 := hid hsa0
        have HAL0 := hid hal0
        have HTK := hid (show ((es.map LE.ln).take (i + 1)).map (cutL most) = ((es.map LE.ln).take i).map (cutL most) ++ [cutL most es[i].ln] by rw [List.take_succ_eq_append_getElem (by rw [List.length_map]; exact hil), List.map_append]; simp)
        generalize es[i] = e at hsa hsa0 HLE0 HTK
        obtain ⟨c0, c1, -, -⟩ := hsa
        obtain ⟨cl, hcl⟩ : ∃ cl, cl = e.cl := ⟨_, rfl⟩
        have HCL := hid hcl
        rw [← hcl] at c1
        have HK := hid (HO.out.line HBZ.out cl)
        clear hsa0 hcl hal hal0
        obtain ⟨b, hb⟩ : ∃ b, b = wo.heap.size := ⟨_, rfl⟩
        have HBB := hid hb
        go_upto_region 6 with fail
        obtain ⟨wl, hwl⟩ : ∃ wl, wl = wo.alloc (.cells #[.slice none 0 0, .bool cl] 38) := ⟨_, rfl⟩
        rw [← hwl, ← hb] at HK
        rw [← hwl, ← hb]
        clear hwl c0 c1 hb
        have h4i := h4
        go_wp2_with fail
        have hi4 : (i : Int) < 4 := by omega
        rw [decide_eq_true hi4]
        clear hi4
        go_loopw [8] (fun s8 wr => ∃ (k : Nat) (vp : Value), s8 = .int .i64 k ∧ k ≤ e.ps.length ∧ k ≤ 8 ∧ Hid (KF w.heap.size w wr v es' b vp ((e.ps.take k).map (cutP most)) cl)) (fun s8 _ => 8 - (intOf s8).toNat)
        case atStart => exact ⟨0, _, rfl, Nat.zero_le _, Nat.zero_le _, HK⟩
        case round =>
          clear HK
          obtain ⟨wx, rfl⟩ : ∃ wx, wx = wr := ⟨_, rfl⟩
          obtain ⟨k, vp, rfl, hk1, hk2, HK⟩ := hrel
          have HBX := hid (show w.heap.size ≤ wx.heap.size from HK.out.o.be.size)
          have hlx := HLE0.out.below (W' := wx) ⟨HK.out.o.be.os, HK.out.o.be.tape, HK.out.o.be.output, HK.out.o.be.size, HK.out.o.be.block⟩ (by rw [add_block]; exact HAL0.out)
          obtain ⟨c0, -, hpts, hle⟩ := hlx
          have hlc := hle.2
          have hlc1 := hle.1
          unfold maxLen at hlc
          by_cases hkl : k < e.ps.length
          · by_cases hk8 : k < 8
            · obtain ⟨bp, hbp, hbl, hsb⟩ := hpts.at_ hkl
              rw [hbp] at c0
              have HTP := hid (show (e.ps.take (k + 1)).map (cutP most) = (e.ps.take k).map (cutP most) ++ [cutP most e.ps[k]] by rw [List.take_succ_eq_append_getElem hkl, List.map_append]; rfl)
              have hkli : (k : Int) < (e.ps.length : Int) := by omega
              have HKE := hid (show k + 1 ≤ e.ps.length from hkl)
              generalize e.ps[k] = p at hsb HTP
              obtain ⟨p0, p1⟩ := hsb
              have HVP := hid (show ∃ A n c, vp = .slice A n c from by obtain ⟨A2, c2, e2, -⟩ := HK.out.po.is; exact ⟨_, _, _, e2⟩)
              have HPV := hid (Var.new wx (pcel p) 40 _ rfl)
              have HK5 := hid (HK.out.next HBX.out ((Below.refl _ wx).alloc (Nat.le_refl _) (.cells (pcel p) 40)))
              go_upto_region 10 with fail
              clear c0 p0 p1 hbl hbp hpts
              obtain ⟨X, hX⟩ : ∃ X, X = wx := ⟨_, rfl⟩
              rw [← hX] at HPV HK5 HBX
              rw [← hX]
              obtain ⟨X3, hX3⟩ : ∃ X3, X3 = X.alloc (.cells (pcel p) 40) := ⟨_, rfl⟩
              have HBX3 := hid (show w.heap.size ≤ X3.heap.size by rw [hX3]; exact Nat.le_trans HBX.out ((Below.refl _ X).alloc (Nat.le_refl _) (.cells (pcel p) 40)).size)
              rw [← hX3] at HPV HK5
              rw [← hX3]
              clear hX hX3 HK
              have HLN := hid (show ((e.ps.take k).map (cutP most)).length ≤ 5000000000 by rw [List.length_map, List.length_take]; omega)
              have HFX : Rg (-most) := by unfold Rg; have := HMO.out; omega
              rename_i Kn hKn
              refine Iv.wp_region_inv (n := 71) (TJ [some 48, some 49, some 50, some 51, some 52, some 53, some 54, some 55, some 56, some 57, some 58, some 59, some 60, some 61, some 62, none, none, some 65, none]
                  [.pointer (some ⟨b, 0, none⟩), vp, .pointer (some ⟨X.heap.size, 0, none⟩), .int .i64 p.x, .int .i64 most, .int .i64 (-most), .int .i64 most, .int .i64 (cutV most p.x), .pointer (some ⟨X.heap.size, 1, none⟩), .int .i64 p.y, .int .i64 most, .int .i64 (-most), .int .i64 most, .int .i64 (cutV most p.y), ptv (cutP most p), undef, undef, .pointer (some ⟨b, 0, none⟩), undef]
                  [(0, .slice (some a) n c), (1, .int .i64 most), (2, undef), (3, undef), (4, .slice none 0 0), (5, v), (6, .int .i64 (i : Int)), (7, .pointer (some ⟨b, 0, none⟩)), (8, .int .i64 (k : Int)), (9, .pointer (some ⟨X.heap.size, 0, none⟩)), (10, .int .i64 (i : Int)), (11, .slice (some a) n c), (12, .int .i64 (n : Int)), (13, .bool true), (14, .bool true), (15, .int .i64 (i : Int)), (16, .bool true), (17, .bool true), (18, u18), (19, u19), (20, .slice (some a) n c), (21, .int .i64 (i : Int)), (22, .pointer (some (a.add (i * 2)))), (23, .pointer (some ⟨(a.add (i * 2)).block, (a.add (i * 2)).off + 1, none⟩)), (24, .bool cl), (25, .agg #[.slice none 0 0, .bool cl]), (66, u66), (67, u67), (68, u68), (69, u69), (70, undef)] (MK X3 w.heap.size vp ((e.ps.take k).map (cutP most)) (cutP most p) ⟨b, 0, none⟩ 15 16 18 63 64 [(1, 0), (3, 2), (5, 4), (7, 3), (7, 5), (7, 6), (9, 8), (11, 10), (13, 9), (13, 11), (13, 12), (13, 7), (14, 7), (14, 13), (15, 14), (16, 1), (16, 15), (16, 13), (18, 17), (18, 16)])) _ (by kernel_rfl) (by kernel_rfl) (Is.start _ rfl) ?_ ?_ ?_
              · refine ⟨fun i d _ h => (by cases h), fun q hq => ?_, MK.start⟩
                simp only [List.mem_cons, List.not_mem_nil, or_false] at hq
                rcases hq with rfl | rfl | rfl | rfl | rfl | rfl | rfl | rfl | rfl | rfl | rfl | rfl | rfl | rfl | rfl | rfl | rfl | rfl | rfl | rfl | rfl | rfl | rfl | rfl | rfl | rfl | rfl | rfl | rfl | rfl | rfl
                all_goals rfl
              · exact ⟨mk_val rfl rfl rfl rfl rfl rfl fun L f wx hL hdep H => run_fldL0 (H.x (7, .pointer (some ⟨b, 0, none⟩)) (by simp)),
                mk_val rfl rfl rfl rfl rfl rfl fun L f wx hL hdep H => run_loadPsv (H.t 0 48 rfl (hdep ⟨0, .data⟩ (by simp) rfl)) ((HK5.out.x.next (H.m.old hL rfl)).cell 0) HVP.out,
                mk_val rfl rfl rfl rfl rfl rfl fun L f wx hL hdep H => run_fldP0b (H.x (9, .pointer (some ⟨X.heap.size, 0, none⟩)) (by simp)),
                mk_val rfl rfl rfl rfl rfl rfl fun L f wx hL hdep H => run_loadInt (H.t 2 50 rfl (hdep ⟨2, .data⟩ (by simp) rfl)) ((HPV.out.next (H.m.old hL rfl)).cell 0),
                mk_val rfl rfl rfl rfl rfl rfl fun L f wx hL hdep H => congrArg (fun v => Result.ok (Next.value v) wx) (H.x (1, .int .i64 most) (by simp)),
                mk_val rfl rfl rfl rfl rfl rfl fun L f wx hL hdep H => run_neg (H.t 4 52 rfl (hdep ⟨4, .data⟩ (by simp) rfl)) HFX,
                mk_val rfl rfl rfl rfl rfl rfl fun L f wx hL hdep H => congrArg (fun v => Result.ok (Next.value v) wx) (H.x (1, .int .i64 most) (by simp)),
                mk_fn rfl rfl rfl rfl rfl rfl fun L f wx hL hdep H => ⟨_, (run_call3 rfl enters_kcut).trans (by rw [show env f (.tmp 51) = .int .i64 p.x from (H.t 3 51 rfl (hdep ⟨3, .data⟩ (by simp) rfl)), show env f (.tmp 53) = .int .i64 (-most) from (H.t 5 53 rfl (hdep ⟨5, .data⟩ (by simp) rfl)), show env f (.tmp 54) = .int .i64 most from (H.t 6 54 rfl (hdep ⟨6, .data⟩ (by simp) rfl))]), kcut_any p.x most wx HMO.out⟩,
                mk_val rfl rfl rfl rfl rfl rfl fun L f wx hL hdep H => run_fldP1b (H.x (9, .pointer (some ⟨X.heap.size, 0, none⟩)) (by simp)),
                mk_val rfl rfl rfl rfl rfl rfl fun L f wx hL hdep H => run_loadInt (H.t 8 56 rfl (hdep ⟨8, .data⟩ (by simp) rfl)) ((HPV.out.next (H.m.old hL rfl)).cell 1),
                mk_val rfl rfl rfl rfl rfl rfl fun L f wx hL hdep H => congrArg (fun v => Result.ok (Next.value v) wx) (H.x (1, .int .i64 most) (by simp)),
                mk_val rfl rfl rfl rfl rfl rfl fun L f wx hL hdep H => run_neg (H.t 10 58 rfl (hdep ⟨10, .data⟩ (by simp) rfl)) HFX,
                mk_val rfl rfl rfl rfl rfl rfl fun L f wx hL hdep H => congrArg (fun v => Result.ok (Next.value v) wx) (H.x (1, .int .i64 most) (by simp)),
                mk_fn rfl rfl rfl rfl rfl rfl fun L f wx hL hdep H => ⟨_, (run_call3 rfl enters_kcut).trans (by rw [show env f (.tmp 57) = .int .i64 p.y from (H.t 9 57 rfl (hdep ⟨9, .data⟩ (by simp) rfl)), show env f (.tmp 59) = .int .i64 (-most) from (H.t 11 59 rfl (hdep ⟨11, .data⟩ (by simp) rfl)), show env f (.tmp 60) = .int .i64 most from (H.t 12 60 rfl (hdep ⟨12, .data⟩ (by simp) rfl))]), kcut_any p.y most wx HMO.out⟩,
                mk_val rfl rfl rfl rfl rfl rfl fun L f wx hL hdep H => run_bldPt (H.t 7 55 rfl (hdep ⟨7, .data⟩ (by simp) rfl)) (H.t 13 61 rfl (hdep ⟨13, .data⟩ (by simp) rfl)),
                mk_lit rfl rfl rfl rfl rfl rfl rfl rfl (by simp) (by simp) rfl fun L f wx hL hdep H => run_litPt (H.t 14 62 rfl (hdep ⟨14, .data⟩ (by simp) rfl)),
                mk_app rfl rfl rfl rfl rfl rfl rfl HLN.out HBX3.out (by simp) ⟨⟨15, .data⟩, by simp, rfl, rfl⟩ rfl rfl HK5.out.po rfl fun L f wx hdep H => (H.t 1 49 rfl (hdep ⟨1, .data⟩ (by simp) rfl)),
                mk_val rfl rfl rfl rfl rfl rfl fun L f wx hL hdep H => run_fldL0 (H.x (7, .pointer (some ⟨b, 0, none⟩)) (by simp)),
                mk_store rfl rfl rfl ⟨⟨16, .data⟩, by simp, rfl, rfl⟩ rfl rfl rfl (fun L f wx hdep H => (H.t 17 65 rfl (hdep ⟨17, .data⟩ (by simp) rfl))) fun ρ w1 w v hb1 ho hg hx hy => by
                  have hxc := (HK5.out.next HBX3.out hb1).x.keep (hg.keeps (HK5.out.next HBX3.out hb1).BP.symm (fun q hq => by have := (yb_own _ _).1 hq; subst this; exact (HK5.out.next HBX3.out hb1).x.lt) b rfl)
                  obtain ⟨x0, x1, xf⟩ := hxc.read2
                  obtain ⟨A2, c2, e2, -⟩ := ho.is
                  rw [e2] at hy ⊢
                  exact run_storePs hx hy x0 (xf 0), trivial⟩
              intro L f act w4 hall H ha
              refine hKn _ _ ?_
              have k0 : f 0 = .slice (some a) n c := H.x (0, .slice (some a) n c) (by simp)
              have k1 : f 1 = .int .i64 most := H.x (1, .int .i64 most) (by simp)
              have k2 : f 2 = undef := H.x (2, undef) (by simp)
              have k3 : f 3 = undef := H.x (3, undef) (by simp)
              have k4 : f 4 = .slice none 0 0 := H.x (4, .slice none 0 0) (by simp)
              have k5 : f 5 = v := H.x (5, v) (by simp)
              have k6 : f 6 = .int .i64 (i : Int) := H.x (6, .int .i64 (i : Int)) (by simp)
              have k7 : f 7 = .pointer (some ⟨b, 0, none⟩) := H.x (7, .pointer (some ⟨b, 0, none⟩)) (by simp)
              have k8 : f 8 = .int .i64 (k : Int) := H.x (8, .int .i64 (k : Int)) (by simp)
              have k9 : f 9 = .pointer (some ⟨X.heap.size, 0, none⟩) := H.x (9, .pointer (some ⟨X.heap.size, 0, none⟩)) (by simp)
              have k10 : f 10 = .int .i64 (i : Int) := H.x (10, .int .i64 (i : Int)) (by simp)
              have k11 : f 11 = .slice (some a) n c := H.x (11, .slice (some a) n c) (by simp)
              have k12 : f 12 = .int .i64 (n : Int) := H.x (12, .int .i64 (n : Int)) (by simp)
              have k13 : f 13 = .bool true := H.x (13, .bool true) (by simp)
              have k14 : f 14 = .bool true := H.x (14, .bool true) (by simp)
              have k15 : f 15 = .int .i64 (i : Int) := H.x (15, .int .i64 (i : Int)) (by simp)
              have k16 : f 16 = .bool true := H.x (16, .bool true) (by simp)
              have k17 : f 17 = .bool true := H.x (17, .bool true) (by simp)
              have k18 : f 18 = u18 := H.x (18, u18) (by simp)
              have k19 : f 19 = u19 := H.x (19, u19) (by simp)
              have k20 : f 20 = .slice (some a) n c := H.x (20, .slice (some a) n c) (by simp)
              have k21 : f 21 = .int .i64 (i : Int) := H.x (21, .int .i64 (i : Int)) (by simp)
              have k22 : f 22 = .pointer (some (a.add (i * 2))) := H.x (22, .pointer (some (a.add (i * 2)))) (by simp)
              have k23 : f 23 = .pointer (some ⟨(a.add (i * 2)).block, (a.add (i * 2)).off + 1, none⟩) := H.x (23, .pointer (some ⟨(a.add (i * 2)).block, (a.add (i * 2)).off + 1, none⟩)) (by simp)
              have k24 : f 24 = .bool cl := H.x (24, .bool cl) (by simp)
              have k25 : f 25 = .agg #[.slice none 0 0, .bool cl] := H.x (25, .agg #[.slice none 0 0, .bool cl]) (by simp)
              have k66 : f 66 = u66 := H.x (66, u66) (by simp)
              have k67 : f 67 = u67 := H.x (67, u67) (by simp)
              have k68 : f 68 = u68 := H.x (68, u68) (by simp)
              have k69 : f 69 = u69 := H.x (69, u69) (by simp)
              have k70 : f 70 = undef := H.x (70, undef) (by simp)
              obtain ⟨w1, wa, hb1, hown, hgr, rfl⟩ := H.m.s (hall 18 (by decide))
              have hw := ha.whole
              rw [show ((List.range 71).map f).toArray = #[f 0, f 1, f 2, f 3, f 4, f 5, f 6, f 7, f 8, f 9, f 10, f 11, f 12, f 13, f 14, f 15, f 16, f 17, f 18, f 19, f 20, f 21, f 22, f 23, f 24, f 25, f 26, f 27, f 28, f 29, f 30, f 31, f 32, f 33, f 34, f 35, f 36, f 37, f 38, f 39, f 40, f 41, f 42, f 43, f 44, f 45, f 46, f 47, f 48, f 49, f 50, f 51, f 52, f 53, f 54, f 55, f 56, f 57, f 58, f 59, f 60, f 61, f 62, f 63, f 64, f 65, f 66, f 67, f 68, f 69, f 70] from rfl] at hw
              rw [k0, k1, k2, k3, k4, k5, k6, k7, k8, k9, k10, k11, k12, k13, k14, k15, k16, k17, k18, k19, k20, k21, k22, k23, k24, k25, k66, k67, k68, k69, k70] at hw
              subst hw
              clear ha H hall hKn k0 k1 k2 k3 k4 k5 k6 k7 k8 k9 k10 k11 k12 k13 k14 k15 k16 k17 k18 k19 k20 k21 k22 k23 k24 k25 k66 k67 k68 k69 k70 Kn
              clear L
              have HK6 := HK5.out.next HBX3.out hb1
              have HK7 := hid (HK6.point (Nat.le_trans HBX3.out hb1.size) hown hgr)
              generalize f 64 = v6 at HK7 hown hgr ⊢
              generalize wa.setCell ⟨b, 0, none⟩ v6 = w7 at HK7 ⊢
              clear hown hgr hb1 HK6 HK5 HPV HVP
              go_wp2_with fail
              go_roundw
              case rel => exact ⟨k + 1, v6, by go_num, HKE.out, by omega, hid (by rw [HTP.out]; exact HK7.out)⟩
              case measure => simp [intOf]; omega
            · have hk8e : k = 8 := by omega
              have hkli : (k : Int) < (e.ps.length : Int) := by omega
              have HTE := hid (show e.ps.take k = e.ps.take 8 from by rw [hk8e])
              obtain ⟨ps2, hps⟩ : ∃ ps2, ps2 = (e.ps.take k).map (cutP most) := ⟨_, rfl⟩
              have HPS := hid hps
              rw [← hps] at HK
              clear hps
              obtain ⟨A2, c2, hv2, hc2⟩ := HK.out.po.cap
              have HC2 := hid hc2
              subst hv2
              obtain ⟨n2, hn2⟩ : ∃ n2, n2 = ps2.length := ⟨_, rfl⟩
              rw [← hn2] at HK
              have HN2 := hid hn2
              clear hn2 hc2
              have HLN2 := hid (show es'.length ≤ 5000000000 by
                have h1 := congrArg List.length HL.out
                simp only [List.length_map, List.length_take] at h1
                omega)
              obtain ⟨x0, x1, xf⟩ := HK.out.x.read2
              clear hpts
              go_wp2_with (at_builtin; refine wpList_append_Ln (B := w.heap.size) (w0 := w) (A := A2) (c := c2) (n := n2) (ps := ps2) (cl := cl) rfl _ _ rfl HBX.out rfl rfl HK.out HN2.out HC2.out HLN2.out ?_)
              intro v5 w5 hko
              have HKO5 := hid hko
              clear hko
              go_wp2_with fail
              go_roundw
              case rel => exact ⟨i + 1, v5, es' ++ [⟨A2, c2, ps2, cl⟩], rfl, by go_num, by omega, by omega, HKO5, hid (by rw [List.map_append, HL.out, HTK.out]; unfold cutL LE.ln; rw [HPS.out, HTE.out, HCL.out]; rfl)⟩
              case measure => simp [intOf]; omega
          · have hkle : k = e.ps.length := by omega
            have hkli : ¬ (k : Int) < (e.ps.length : Int) := by omega
            have HTE := hid (show e.ps.take k = e.ps.take 8 from by rw [List.take_of_length_le (by omega), List.take_of_length_le (by omega)])
            obtain ⟨ps2, hps⟩ : ∃ ps2, ps2 = (e.ps.take k).map (cutP most) := ⟨_, rfl⟩
            have HPS := hid hps
            rw [← hps] at HK
            clear hps
            obtain ⟨A2, c2, hv2, hc2⟩ := HK.out.po.cap
            have HC2 := hid hc2
            subst hv2
            obtain ⟨n2, hn2⟩ : ∃ n2, n2 = ps2.length := ⟨_, rfl⟩
            rw [← hn2] at HK
            have HN2 := hid hn2
            clear hn2 hc2
            have HLN2 := hid (show es'.length ≤ 5000000000 by
              have h1 := congrArg List.length HL.out
              simp only [List.length_map, List.length_take] at h1
              omega)
            obtain ⟨x0, x1, xf⟩ := HK.out.x.read2
            clear hpts
            go_wp2_with (at_builtin; refine wpList_append_Ln (B := w.heap.size) (w0 := w) (A := A2) (c := c2) (n := n2) (ps := ps2) (cl := cl) rfl _ _ rfl HBX.out rfl rfl HK.out HN2.out HC2.out HLN2.out ?_)
            intro v5 w5 hko
            have HKO5 := hid hko
            clear hko
            go_wp2_with fail
            go_roundw
            case rel => exact ⟨i + 1, v5, es' ++ [⟨A2, c2, ps2, cl⟩], rfl, by go_num, by omega, by omega, HKO5, hid (by rw [List.map_append, HL.out, HTK.out]; unfold cutL LE.ln; rw [HPS.out, HTE.out, HCL.out]; rfl)⟩
            case measure => simp [intOf]; omega
      · have hi4 : i = 4 := by omega
        subst hi4
        obtain ⟨A', c', rfl, hL⟩ := HO.out.lns
        have HLL := hid hL
        have HBE := hid HO.out.be
        have hi : (4 : Int) < (n : Int) := by omega
        clear hL
        go_wp2_with fail
        go_ret
        exact ⟨⟨A', c', es', rfl, HLL.out, by have := HL.out; simpa using this⟩, HBE.out⟩
    · have HE2 := hid (show (es.map LE.ln).take i = (es.map LE.ln).take 4 by
        have := HN.out
        rw [List.take_of_length_le (by rw [List.length_map]; omega), List.take_of_length_le (by rw [List.length_map]; omega)])
      rw [HE2.out] at HL
      have hlti : ¬ (i : Int) < (n : Int) := by omega
      obtain ⟨A', c', rfl, hL⟩ := HO.out.lns
      have HLL := hid hL
      have HBE := hid HO.out.be
      clear hL
      go_wp2_with fail
      go_ret
      exact ⟨⟨A', c', es', rfl, HLL.out, by have := HL.out; simpa using this⟩, HBE.out⟩
end Go.Proofs.Ytijkoaggcmgjiaa

/- keep1's box and fills. -/
namespace Go.Proofs.Ytijkoaggcmgjiaa
open Go Go.RowKit
set_option linter.unusedVariables false
set_option linter.unusedSimpArgs false

/-! ### lines that Flatten returns -/
def p2c (p : Co.P2) : P2 := ⟨p.x, p.y⟩
def lnc (l : Co.Ln) : Ln := ⟨l.ps.map p2c, l.cl⟩
theorem co_pts {w : World} {B g c : Nat} {ps : List Co.P2} (h : w.ownsRow B 40 2 (.slice (some ⟨g, 0, none⟩) ps.length c) ps.length (Co.pfl ps)) (hg : g < w.heap.size) : Pts w (some ⟨g, 0, none⟩) (ps.map p2c) := fun _ => ⟨_, rfl, hg, fun i s hs => by
  rw [List.getElem?_map] at hs
  cases hp : ps[i]? with
  | none => rw [hp] at hs; cases hs
  | some p =>
    rw [hp] at hs
    obtain rfl : p2c p = s := Option.some.inj hs
    have hc : ∀ j u, (Co.pfl ps)[j]? = some u → w.cell? ⟨g, j, none⟩ = some u := fun j u hu => by
      have := World.ownsRow.cellAt h j (by
        rcases Nat.lt_or_ge j (Co.pfl ps).length with k | k
        · rw [Co.pfl_length] at k; exact k
        · rw [List.getElem?_eq_none k] at hu; cases hu)
      rw [this]; exact hu
    obtain ⟨h1, h2⟩ := Co.pfl_get ps i p hp
    rw [adr0]
    exact ⟨hc _ _ h1, hc _ _ h2⟩⟩
theorem co_lns {w : World} {B : Nat} {v : Value} {es : List Co.LE} (h : Co.OwnL w B v es) : ∃ A c, v = .slice A es.length c ∧ Lns w A (es.map fun e => lnc e.2) := by
  rcases h.r.2 with ⟨h1, h2⟩ | ⟨g, cap, cur, h1, h3, h4, h5, h6, h7, h8⟩
  · have : es = [] := List.eq_nil_of_length_eq_zero h2
    subst this
    exact ⟨none, 0, h1, Lns.nil _ _⟩
  · refine ⟨some ⟨g, 0, none⟩, cap, h1, fun _ => ⟨_, rfl, (Array.getElem?_eq_some_iff.1 h4).1, fun i l hl => ?_⟩⟩
    rw [List.getElem?_map] at hl
    cases he : es[i]? with
    | none => rw [he] at hl; cases hl
    | some e =>
      rw [he] at hl
      obtain rfl : lnc e.2 = l := Option.some.inj hl
      have hc : ∀ j u, (Co.lfl es)[j]? = some u → w.cell? ⟨g, j, none⟩ = some u := fun j u hu => by
        have := World.ownsRow.cellAt (h1 ▸ h.r) j (by
          rcases Nat.lt_or_ge j (Co.lfl es).length with k | k
          · rw [Co.lfl_length] at k; exact k
          · rw [List.getElem?_eq_none k] at hu; cases hu)
        rw [this]; exact hu
      obtain ⟨g1, g2⟩ := Co.lfl_get es i e he
      obtain ⟨hp, hp0⟩ := h.p e (List.mem_of_getElem? he)
      rw [adr0]
      rcases hp.2 with ⟨_, k2⟩ | ⟨gp, cp, curp, k1, k3, k4, k5, k6, k7, k8⟩
      · omega
      · refine ⟨⟨some ⟨gp, 0, none⟩, cp, ?_, co_pts (k1 ▸ hp) (Array.getElem?_eq_some_iff.1 k4).1, ?_, k6⟩, hc _ _ g2⟩
        · have := hc _ _ g1
          rw [k1] at this
          show w.cell? _ = some (.slice _ (e.2.ps.map p2c).length _)
          rw [List.length_map]
          exact this
        · show (e.2.ps.map p2c).length ≤ cp
          rw [List.length_map]
          exact k5

/-! ### the box -/
namespace Co
theorem rect_good (x0 y0 x1 y1 : Int) (w : World) (h : Wi 32767 [x0, y0, x1, y1]) (h1 : x0 < x1) (h2 : y0 < y1) :
    Calls Try.prog 62 #[.int .i64 x0, .int .i64 y0, .int .i64 x1, .int .i64 y1] w fun e w' => (∃ g, e = .returned (.tuple #[.slice (some ⟨g, 0, none⟩) 5 5, .int .i64 0]) ∧ Segs w' (some ⟨g, 0, none⟩) (rectP x0 y0 x1 y1)) ∧ Below w.heap.size w w' := by
  have HW := hid (within_any 32767 [x0, y0, x1, y1] w.heap.size 0 4 4 _ (by omega) (by simp) rfl (Var.new w #[.int .i64 x0, .int .i64 y0, .int .i64 x1, .int .i64 y1] 3 _ rfl).lies4)
  rw [decide_eq_true h] at HW
  clear h
  go_enter Try.func62, Try.ntmps62
  go_wp2_with fail
  (with_reducible refine HW.out.mono ?_); rintro e w1 ⟨rfl, hw⟩
  have HB := hid (show Below w.heap.size w w1 by rw [← hw]; exact below_alloc (Below.refl _ w) _)
  clear hw
  go_wp2_with fail
  go_ret2
  exact ⟨⟨_, rfl, Var.segs (Var.new w1 (flat (rectP x0 y0 x1 y1)).toArray 97 _ rfl)⟩, HB.out.alloc HB.out.size _⟩
end Co
def boxS : List Co.Sg := [⟨1, 0, 0, 0, 0, 0⟩, ⟨2, 4, 0, 0, 0, 0⟩, ⟨2, 4, 2, 0, 0, 0⟩, ⟨2, 0, 2, 0, 0, 0⟩, ⟨4, 0, 0, 0, 0, 0⟩]
theorem boxS_chk : Co.chk boxS = 0 := by decide
theorem boxS_flat : (Co.flatL boxS).map lnc = [⟨[⟨0, 0⟩, ⟨4, 0⟩, ⟨4, 2⟩, ⟨0, 2⟩], true⟩] := by rfl
def boxL : List Ln := [⟨[⟨0, 0⟩, ⟨4, 0⟩, ⟨4, 2⟩, ⟨0, 2⟩], true⟩]
theorem boxL_ok : lchk boxL = 0 := by decide
def boxR : List Rn := [⟨0, 0, 4⟩, ⟨1, 0, 4⟩]
theorem box_wind (x y : Int) : wind boxL x y = if 0 ≤ x ∧ x < 4 ∧ 0 ≤ y ∧ y < 2 then -1 else 0 := by
  have e : wind boxL x y = (if (0 ≤ y ∧ y < 0) ∧ (⟨⟨0, 0⟩, ⟨4, 0⟩, 1⟩ : Sl).cell y ≤ x then 1 else 0) + ((if (0 ≤ y ∧ y < 2) ∧ (⟨⟨4, 0⟩, ⟨4, 2⟩, 1⟩ : Sl).cell y ≤ x then 1 else 0) + ((if (2 ≤ y ∧ y < 2) ∧ (⟨⟨4, 2⟩, ⟨0, 2⟩, 1⟩ : Sl).cell y ≤ x then 1 else 0) + ((if (0 ≤ y ∧ y < 2) ∧ (⟨⟨0, 0⟩, ⟨0, 2⟩, -1⟩ : Sl).cell y ≤ x then -1 else 0) + 0))) := by
    unfold wind boxL edgesL
    simp [edgs, edgF, edW, slp, Sl.w, Sl.hit, sumI]
  have c1 : (⟨⟨4, 0⟩, ⟨4, 2⟩, 1⟩ : Sl).cell y = 4 := by unfold Sl.cell Sl.num Sl.h; simp
  have c2 : (⟨⟨0, 0⟩, ⟨0, 2⟩, -1⟩ : Sl).cell y = 0 := by unfold Sl.cell Sl.num Sl.h; simp
  rw [e, c1, c2]
  have n1 : ¬ (0 ≤ y ∧ y < 0) := by omega
  have n2 : ¬ (2 ≤ y ∧ y < 2) := by omega
  simp only [n1, n2, false_and, if_false]
  by_cases h1 : 0 ≤ y ∧ y < 2 <;> by_cases h2 : (4 : Int) ≤ x <;> by_cases h3 : (0 : Int) ≤ x <;> simp [h1, h2, h3] <;> omega
theorem box_filled : Filled false boxL boxR := ⟨by decide, fun x y => by
  have e : has boxR x y = decide (0 ≤ x ∧ x < 4 ∧ 0 ≤ y ∧ y < 2) := by
    unfold boxR
    rw [has_cons, has_cons]
    unfold hasR
    simp only [has, List.any_nil, Bool.or_false]
    rw [← Bool.decide_or, decide_eq_decide]
    omega
  rw [e, box_wind]
  by_cases h : 0 ≤ x ∧ x < 4 ∧ 0 ≤ y ∧ y < 2
  · rw [if_pos h, decide_eq_true h, decide_eq_true (by omega)]; rfl
  · rw [if_neg h, decide_eq_false h, isF_zero, Bool.and_false]⟩
theorem box_edges : (edgesL boxL).length ≤ 1000000 := by decide
theorem box_rects : rectE 0 0 4 2 = 0 ∧ rectR 0 0 4 2 = boxR := by decide

theorem kbox_any (w : World) : Calls Try.prog 50 #[] w fun e w' => (∃ g, e = .returned (.slice (some ⟨g, 0, none⟩) 5 5) ∧ Co.Segs w' (some ⟨g, 0, none⟩) boxS) ∧ Below w.heap.size w w' := by
  go_enter Try.func50, Try.ntmps50
  go_wp2_with fail
  (with_reducible refine (Co.rect_good 0 0 4 2 _ (by decide) (by decide) (by decide)).mono ?_); rintro e w1 ⟨⟨g, rfl, hs⟩, hb⟩
  have HS := hid (show Co.Segs w1 (some ⟨g, 0, none⟩) boxS from hs)
  have HB1 := hid hb
  clear hs hb
  go_wp2_with fail
  go_ret
  exact ⟨⟨g, rfl, HS.out⟩, HB1.out⟩
theorem kfills_any (w : World) : Calls Try.prog 17 #[] w fun e w' => e = .returned (.bool true) ∧ Below w.heap.size w w' := by
  go_enter Try.func17, Try.ntmps17
  go_wp2_with fail
  (with_reducible refine (kbox_any _).mono ?_); rintro e w1 ⟨⟨g, rfl, hs⟩, hb⟩
  have HS := hid hs
  have HB1 := hid hb
  clear hs hb
  go_wp2_with fail
  (with_reducible refine (Co.flatten_good (some ⟨g, 0, none⟩) boxS 5 5 _ rfl HS.out boxS_chk).mono ?_); rintro e w2 ⟨v, es, rfl, hown, hes, hb⟩
  have HB2 := hid (below_next HB1.out hb)
  obtain ⟨A', c', rfl, hL⟩ := co_lns hown
  have hls : es.map (fun e => lnc e.2) = boxL := by
    have := congrArg (List.map lnc) hes
    rw [List.map_map, boxS_flat] at this
    exact this
  rw [hls] at hL
  have hel : es.length = 1 := by have := congrArg List.length hls; simpa [boxL] using this
  rw [hel]
  have HL := hid hL
  clear hL hls hes hown hb hel
  go_wp2_with fail
  (with_reducible refine (fill_O A' boxL 1 c' _ rfl (by decide) HL.out boxL_ok box_edges).mono ?_); rintro e w3 ⟨⟨v3, rs, rfl, hF, hown⟩, hb⟩
  obtain rfl := hF.uniq box_filled
  have HB3 := hid (below_next HB2.out hb)
  have HO3 := hid hown
  clear hF hb hown
  go_wp2_with fail
  (with_reducible refine (rect_any 0 0 4 2 _).mono ?_); rintro e w4 ⟨v4, rfl, hown, hb⟩
  rw [box_rects.1]
  rw [box_rects.2] at hown
  have HB4 := hid (below_next HB3.out hb)
  obtain ⟨A4, c4, rfl, hr4⟩ := hown.is
  obtain ⟨A3, c3, rfl, hr3⟩ := (HO3.out.next hb).is
  have HR3 := hid hr3
  have HR4 := hid hr4
  clear hr3 hr4 hown hb HO3
  go_wp2_with fail
  (with_reducible refine (equal_any A3 A4 boxR.length c3 boxR.length c4 boxR boxR _ rfl rfl (by decide) (by decide) HR3.out HR4.out).mono ?_); rintro e w5 ⟨rfl, hb⟩
  have HB5 := hid (below_next HB4.out hb)
  clear hb
  rw [show decide (boxR = boxR) = true by simp]
  go_wp2_with fail
  go_ret
  exact ⟨rfl, HB5.out⟩
end Go.Proofs.Ytijkoaggcmgjiaa

/- What keep1's laws want of the lines that few returns. -/
namespace Go.Proofs.Ytijkoaggcmgjiaa
open Go Go.RowKit
set_option linter.unusedVariables false
set_option linter.unusedSimpArgs false

def fewL (m : Int) (ls : List Ln) : List Ln := (ls.take 4).map (cutL m)
theorem few_in {m : Int} (hm : 0 ≤ m) {ls : List Ln} : ∀ l ∈ fewL m ls, ∀ p ∈ l.ps, (-m ≤ p.x ∧ p.x ≤ m) ∧ -m ≤ p.y ∧ p.y ≤ m := by
  intro l hl p hp
  obtain ⟨l0, -, rfl⟩ := List.mem_map.1 hl
  obtain ⟨p0, -, rfl⟩ := List.mem_map.1 hp
  exact ⟨cutV_in hm _, cutV_in hm _⟩
theorem few_ok {m : Int} (hm : 0 ≤ m ∧ m ≤ 32767) (ls : List Ln) : lchk (fewL m ls) = 0 := by
  refine lchk_t (List.all_eq_true.2 fun l hl => List.all_eq_true.2 fun p hp => ?_)
  have h := few_in hm.1 l hl p hp
  unfold okP
  rw [inB_yes (by omega), inB_yes (by omega)]
  rfl
theorem few_len (m : Int) (ls : List Ln) : (fewL m ls).length ≤ 4 := by
  unfold fewL
  rw [List.length_map, List.length_take]
  omega
theorem few_ps (m : Int) (ls : List Ln) : ∀ l ∈ fewL m ls, l.ps.length ≤ 8 := by
  intro l hl
  obtain ⟨l0, -, rfl⟩ := List.mem_map.1 hl
  unfold cutL
  rw [List.length_map, List.length_take]
  omega
theorem edgesL_le {k : Nat} : ∀ (ls : List Ln), (∀ l ∈ ls, l.ps.length ≤ k) → (edgesL ls).length ≤ k * ls.length
  | [], _ => by simp [edgesL]
  | l :: r, h => by
    have h1 := edgesL_le r fun x hx => h x (List.mem_cons_of_mem _ hx)
    have h2 := h l (List.mem_cons_self ..)
    have h3 : (edgesL (l :: r)).length = l.ps.length + (edgesL r).length := by
      unfold edgesL
      rw [List.flatMap_cons, List.length_append, edgs_len]
    rw [h3, List.length_cons, Nat.mul_add]
    omega
theorem few_edges (m : Int) (ls : List Ln) : (edgesL (fewL m ls)).length ≤ 32 := by
  have h1 := edgesL_le (k := 8) (fewL m ls) (few_ps m ls)
  have h2 := few_len m ls
  omega
theorem sumI_bd {α : Type} {f : α → Int} {B : Int} : ∀ l : List α, (∀ x ∈ l, -B ≤ f x ∧ f x ≤ B) → -(B * (l.length : Int)) ≤ sumI (l.map f) ∧ sumI (l.map f) ≤ B * (l.length : Int)
  | [], _ => by simp [sumI]
  | x :: t, h => by
    have h1 := sumI_bd t fun y hy => h y (List.mem_cons_of_mem _ hy)
    have h2 := h x (List.mem_cons_self ..)
    rw [List.map_cons, sumI_cons, List.length_cons]
    have e : B * ((t.length + 1 : Nat) : Int) = B * (t.length : Int) + B := by
      rw [Int.natCast_add, Int.mul_add]; simp
    rw [e]
    omega
theorem edW_bd (e : Ed) (x y : Int) : -1 ≤ edW e x y ∧ edW e x y ≤ 1 := by
  have hd := slp_d e.1 e.2
  unfold edW Sl.w
  split <;> omega
theorem wind_bd {ls : List Ln} (h : (edgesL ls).length ≤ 32) (x y : Int) : -32 ≤ wind ls x y ∧ wind ls x y ≤ 32 := by
  have := sumI_bd (B := 1) (edgesL ls) fun e _ => edW_bd e x y
  unfold wind
  omega
theorem areaF_is {es : List Ed} {M : Int} (hM : 0 ≤ M ∧ M ≤ 4611686018427387904) (h : ∀ e ∈ es, -M ≤ edA e ∧ edA e ≤ M) (hl : M * (es.length : Int) ≤ 4611686018427387904) : ∀ k, k ≤ es.length → areaF (es.take k) = sumI ((es.take k).map edA) ∧ (-(M * (k : Int)) ≤ sumI ((es.take k).map edA) ∧ sumI ((es.take k).map edA) ≤ M * (k : Int))
  | 0, _ => by simp [areaF, sumI]
  | k + 1, hk => by
    obtain ⟨h1, h2⟩ := areaF_is hM h hl k (by omega)
    have hg : es[k]? = some es[k] := List.getElem?_eq_getElem (by omega)
    have he := h es[k] (List.getElem_mem _)
    have ht : es.take (k + 1) = es.take k ++ [es[k]] := by rw [List.take_succ_eq_append_getElem (by omega)]
    have e : M * ((k + 1 : Nat) : Int) = M * (k : Int) + M := by rw [Int.natCast_add, Int.mul_add]; simp
    have hle : M * ((k + 1 : Nat) : Int) ≤ M * (es.length : Int) := Int.mul_le_mul_of_nonneg_left (by omega) hM.1
    rw [areaF_take hg, h1, ht, List.map_append, sumI_append]
    rw [show sumI (List.map edA [es[k]]) = edA es[k] by simp [sumI]]
    rw [e] at hle ⊢
    refine ⟨wrap64_small (by omega), by omega, by omega⟩
theorem mul_bd {a b m : Int} (ha : -m ≤ a ∧ a ≤ m) (hb : -m ≤ b ∧ b ≤ m) : -(m * m) ≤ a * b ∧ a * b ≤ m * m := by
  rcases Int.le_total 0 b with h | h
  · exact mul_abs ha ⟨h, hb.2⟩
  · have := mul_abs (b := -b) (B := m) ha ⟨by omega, by omega⟩
    rw [Int.mul_neg] at this
    omega
theorem edA_bd {e : Ed} {m : Int} (h1 : (-m ≤ e.1.x ∧ e.1.x ≤ m) ∧ -m ≤ e.1.y ∧ e.1.y ≤ m) (h2 : (-m ≤ e.2.x ∧ e.2.x ≤ m) ∧ -m ≤ e.2.y ∧ e.2.y ≤ m) : -(2 * (m * m)) ≤ edA e ∧ edA e ≤ 2 * (m * m) := by
  have k1 := mul_bd h2.1 h1.2
  have k2 := mul_bd h1.1 h2.2
  unfold edA
  omega
theorem few_area {m : Int} (hm : 0 ≤ m ∧ m ≤ 32767) (ls : List Ln) : areaF (edgesL (fewL m ls)) = area2 (fewL m ls) ∧ -(2 * (m * m) * 32) ≤ area2 (fewL m ls) ∧ area2 (fewL m ls) ≤ 2 * (m * m) * 32 := by
  have hE := edges_mem (Q := fun p => (-m ≤ p.x ∧ p.x ≤ m) ∧ -m ≤ p.y ∧ p.y ≤ m) (few_in hm.1 (ls := ls))
  have hl := few_edges m ls
  have hmm : 0 ≤ m * m := Int.mul_nonneg hm.1 hm.1
  have hmm2 : m * m ≤ 32767 * 32767 := Int.mul_le_mul hm.2 hm.2 hm.1 (by decide)
  have hb : 2 * (m * m) * ((edgesL (fewL m ls)).length : Int) ≤ 2 * (m * m) * 32 := Int.mul_le_mul_of_nonneg_left (by omega) (by omega)
  have h := areaF_is (M := 2 * (m * m)) ⟨by omega, by omega⟩ (fun e he => edA_bd (hE e he).1 (hE e he).2) (by omega) _ (Nat.le_refl (edgesL (fewL m ls)).length)
  rw [List.take_length] at h
  unfold area2
  exact ⟨h.1, by omega, by omega⟩
/-! ### sums over the window -/
def rowS (ls : List Ln) (j : Nat) (y : Int) : Int := sumI ((ups (-20) j).map fun x => wind ls x y)
def totS (ls : List Ln) (k : Nat) : Int := sumI ((ups (-20) k).map fun y => rowS ls 41 y)
theorem rowS_succ (ls : List Ln) (j : Nat) (y : Int) : rowS ls (j + 1) y = rowS ls j y + wind ls (-20 + (j : Int)) y := by
  unfold rowS
  rw [ups_succ, List.map_append, sumI_append]
  simp [sumI]
theorem totS_succ (ls : List Ln) (k : Nat) : totS ls (k + 1) = totS ls k + rowS ls 41 (-20 + (k : Int)) := by
  unfold totS
  rw [ups_succ, List.map_append, sumI_append]
  simp [sumI]
theorem totS_win (ls : List Ln) : totS ls 41 = windSum ls (-20) 41 := rfl
theorem highs_at {ls : List Ln} {i : Nat} (h : i < ls.length) : highs (ls.take (i + 1)) = highs (ls.take i) + sumI ((edgs ls[i].ps).map edH) := by
  unfold highs edgesL
  rw [List.take_succ_eq_append_getElem h, List.flatMap_append, List.map_append, sumI_append]
  simp
theorem edgs_step {ps : List P2} {j : Nat} (h : j < ps.length) : sumI (((edgs ps).take (j + 1)).map edH) = sumI (((edgs ps).take j).map edH) + edH (ps.getD j default, ps.getD ((j + 1) % ps.length) default) := by
  have hg := edgs_get h
  obtain ⟨hl, he⟩ := List.getElem?_eq_some_iff.1 hg
  rw [List.take_succ_eq_append_getElem hl, List.map_append, sumI_append, he]
  simp [sumI]
set_option maxHeartbeats 1000000 in
theorem ksize_any (x : Int) (w : World) (h : -4611686018427387904 ≤ x ∧ x ≤ 4611686018427387904) :
    Calls Try.prog 20 #[.int .i64 x] w fun e w' => e = .returned (.int .i64 (max x (-x))) ∧ w = w' := by
  go_enter Try.func20, Try.ntmps20
  go_wp2
  all_goals go_ret
  exact ⟨rfl, rfl⟩
theorem enters_ksize : Enters Try.prog 20 := enters_of Try.func20 (by kernel_rfl) rfl
end Go.Proofs.Ytijkoaggcmgjiaa

/- FillAreaBound. -/
namespace Go.Proofs.Ytijkoaggcmgjiaa
open Go Go.RowKit
attribute [local go_sem] Oper.semAt_some
set_option linter.unusedVariables false
set_option linter.unusedSimpArgs false

section
variable {ρ : Operand → Value} {dst : Option Tmp} {ty : TypeId} {pos : String} {af : Array Edge} {x y : Operand} {w : World} {gd : Option (Nat × Bool)}
theorem run_fldP1c {a : Addr} (hx : ρ x = .pointer (some a)) :
    (execOp ρ { dst := dst, op := .fieldAddr 40 x 1, type := ty, pos := pos, after := af, guard := gd }).run Try.prog w = .ok (.value (.pointer (some ⟨a.block, a.off + 1, none⟩))) w := by
  go_simp
end

set_option maxRecDepth 100000 in
set_option maxHeartbeats 8000000 in
theorem kab_law (A : Option Addr) (n c : Nat) (ls : List Ln) (w : World) (hn : n = ls.length) (hs : Lns w A ls) (hm : n ≤ maxLen) :
    Calls Try.prog 4 #[.slice A n c] w fun e w' => e = .returned (.bool true) ∧ Below w.heap.size w w' := by
  have HS := hid hs
  have HN := hid hn
  have HM := hid hm
  clear hs hn hm
  go_enter Try.func4, Try.ntmps4
  go_wp2_with fail
  (with_reducible refine (kfills_any _).mono ?_); rintro e w1 ⟨rfl, hb⟩
  have HB1 := hid hb
  clear hb
  go_wp2_with fail
  obtain ⟨es, hes, hE⟩ := HS.out.ext
  have hnE : n = es.length := by have := HN.out; rw [this, ← hes, List.length_map]
  (with_reducible refine (kfew_any A es n c 20 _ hnE HM.out (hE.next HB1.out) (by decide)).mono ?_); rintro e w2 ⟨⟨A', c', es', rfl, hE2, hL2⟩, hb⟩
  rw [hes] at hL2
  have HB2 := hid (below_next HB1.out hb)
  have HL := hid (show es'.map LE.ln = fewL 20 ls from hL2)
  have HE := hid hE2
  clear hb hL2 hE2 hnE hE hes es HS HM HN HB1
  obtain ⟨L, hL⟩ : ∃ L, L = fewL 20 ls := ⟨_, rfl⟩
  have HIN := hid (few_in (m := 20) (by decide) (ls := ls))
  have HOK := hid (few_ok (m := 20) (by decide) ls)
  have HPS := hid (few_ps 20 ls)
  have HED := hid (few_edges 20 ls)
  have HAR := hid (few_area (m := 20) (by decide) ls)
  have hlen := few_len 20 ls
  rw [← hL] at HIN HOK HPS HED HAR HL hlen
  clear hL
  obtain ⟨m, hmE⟩ : ∃ m, m = es'.length := ⟨_, rfl⟩
  rw [← hmE]
  have HME := hid hmE
  have hm4 : m ≤ 4 := by have := congrArg List.length HL.out; rw [List.length_map] at this; omega
  clear hmE hlen
  go_wp2_with fail
  go_loopw [3, 5] (fun s3 s5 wr => ∃ (k : Nat) (S : Int), s5 = .int .i64 (-20 + (k : Int)) ∧ s3 = .int .i64 S ∧ k ≤ 41 ∧ (-2000 * (k : Int) ≤ S ∧ S ≤ 2000 * (k : Int)) ∧ Hid (S = totS L k) ∧ Hid (Below w.heap.size w wr) ∧ Hid (LnsE wr A' es')) (fun _ s5 _ => (21 - intOf s5).toNat)
  case atStart => exact ⟨0, 0, rfl, rfl, by decide, by decide, hid rfl, HB2, HE⟩
  case round =>
    clear HB2 HE
    obtain ⟨wo, rfl⟩ : ∃ wo, wo = wr := ⟨_, rfl⟩
    obtain ⟨k, S, rfl, rfl, hk, hS, HS, HB, HE⟩ := hrel
    by_cases hk41 : k < 41
    · have hki : (-20 + (k : Int)) ≤ 20 := by omega
      go_wp2_with fail
      go_loopw [3, 6] (fun s3 s6 wr => ∃ (j : Nat) (T : Int), s6 = .int .i64 (-20 + (j : Int)) ∧ s3 = .int .i64 T ∧ j ≤ 41 ∧ (-(2000 * (k : Int) + 40 * (j : Int)) ≤ T ∧ T ≤ 2000 * (k : Int) + 40 * (j : Int)) ∧ Hid (T = totS L k + rowS L j (-20 + (k : Int))) ∧ Hid (Below w.heap.size w wr) ∧ Hid (LnsE wr A' es')) (fun _ s6 _ => (21 - intOf s6).toNat)
      case atStart => exact ⟨0, S, rfl, rfl, by decide, by omega, hid (by rw [HS.out]; simp [rowS, ups, sumI]), HB, HE⟩
      case round =>
        clear HB HE
        obtain ⟨wx, rfl⟩ : ∃ wx, wx = wr := ⟨_, rfl⟩
        obtain ⟨j, T, rfl, rfl, hj, hT, HT, HB, HE⟩ := hrel
        by_cases hj41 : j < 41
        · have hji : (-20 + (j : Int)) ≤ 20 := by omega
          have hwd := wind_bd HED.out (-20 + (j : Int)) (-20 + (k : Int))
          have hwi : windF (edgesL L) (-20 + (j : Int)) (-20 + (k : Int)) = wind L (-20 + (j : Int)) (-20 + (k : Int)) := windF_is (by have := HED.out; omega)
          have HT2 := hid (show T + wind L (-20 + (j : Int)) (-20 + (k : Int)) = totS L k + rowS L (j + 1) (-20 + (k : Int)) by rw [rowS_succ, HT.out]; omega)
          go_wp2_with fail
          (with_reducible refine (wind_ok A' L m c' _ _ _ (by rw [HME.out, ← HL.out, List.length_map]) (by unfold maxLen; omega) (HL.out ▸ HE.out.lns) HOK.out (by omega) (by omega)).mono ?_); rintro e w4 ⟨rfl, hb⟩
          rw [hwi]
          clear hwi
          generalize wind L (-20 + (j : Int)) (-20 + (k : Int)) = V at hwd HT2 ⊢
          have HB4 := hid (below_next HB.out hb)
          have HE4 := hid (HE.out.next hb)
          clear hb HB HE
          go_wp2_with fail
          go_roundw
          case rel => exact ⟨j + 1, T + V, by go_num, by go_num, by omega, by omega, hid HT2.out, HB4, HE4⟩
          case measure => simp [intOf]; omega
        · have hj2 : j = 41 := by omega
          subst hj2
          have hji : ¬ (-20 + ((41 : Nat) : Int)) ≤ 20 := by omega
          go_wp2_with fail
          go_roundw
          case rel => exact ⟨k + 1, T, by go_num, rfl, by omega, by omega, hid (by rw [HT.out, totS_succ]), HB, HE⟩
          case measure => simp [intOf]; omega
    · have hk2 : k = 41 := by omega
      subst hk2
      rw [totS_win] at HS
      go_wp2_with fail
      have hmi : m = L.length := by rw [HME.out, ← HL.out, List.length_map]
      have HMI := hid hmi
      clear hmi
      go_loopw [4, 41] (fun s4 s41 wr => ∃ (i : Nat) (H : Int), s41 = .int .i64 (i : Int) ∧ s4 = .int .i64 H ∧ i ≤ m ∧ (0 ≤ H ∧ H ≤ 800 * (i : Int)) ∧ Hid (H = highs (L.take i)) ∧ Hid (Below w.heap.size w wr) ∧ Hid (LnsE wr A' es')) (fun _ s41 _ => m - (intOf s41).toNat)
      case atStart => exact ⟨0, 0, rfl, rfl, Nat.zero_le _, by decide, hid rfl, HB, HE⟩
      case round =>
        clear HB HE
        obtain ⟨wx, rfl⟩ : ∃ wx, wx = wr := ⟨_, rfl⟩
        obtain ⟨i, H, rfl, rfl, hi, hH, HH, HB, HE⟩ := hrel
        by_cases him : i < m
        · have himi : (i : Int) < (m : Int) := by omega
          have hil : i < es'.length := by rw [← HME.out]; exact him
          have hiL : i < L.length := by rw [← HMI.out]; exact him
          obtain ⟨a, rfl, hal, hsa⟩ := HE.out.at_ hil
          have hel : LE.ln es'[i] = L[i] := by
            have h1 := HL.out
            subst h1
            simp
          have HHS := hid (highs_at hiL)
          have hps8 := HPS.out L[i] (List.getElem_mem _)
          have HINL := hid (HIN.out L[i] (List.getElem_mem _))
          rw [← hel] at HHS hps8 HINL
          generalize es'[i] = e at hsa HHS hps8 HINL
          clear hel
          obtain ⟨c0, c1, hpts, hle⟩ := hsa
          obtain ⟨A0, k0, ps, cl⟩ := e
          simp only [LE.ln] at HHS hps8 HINL c0 c1 hpts hle
          have HIN2 : Hid (∀ p ∈ ps, (-20 ≤ p.x ∧ p.x ≤ 20) ∧ -20 ≤ p.y ∧ p.y ≤ 20) := HINL
          clear HINL
          obtain ⟨n0, hn0⟩ : ∃ n0, n0 = ps.length := ⟨_, rfl⟩
          rw [← hn0] at c0 hps8
          have HN0 := hid hn0
          obtain ⟨b, hb⟩ : ∃ b, b = wx.heap.size := ⟨_, rfl⟩
          have hbe := (Below.refl _ wx).alloc (Nat.le_refl _) (.cells #[.slice A0 n0 k0, .bool cl] 38)
          have HB2 := hid (below_next HB.out hbe)
          have HE2 := hid (HE.out.next hbe)
          have HP2 := hid (hpts.next hbe)
          have HV2 := hid (Var.new wx #[.slice A0 n0 k0, .bool cl] 38 _ rfl)
          clear hn0 hpts hle hbe
          go_wp2_with fail
          obtain ⟨wl, hwl⟩ : ∃ wl, wl = wx.alloc (.cells #[.slice A0 n0 k0, .bool cl] 38) := ⟨_, rfl⟩
          rw [← hwl, ← hb] at HV2
          rw [← hwl] at HB2 HE2 HP2
          rw [← hwl, ← hb]
          clear hwl hb c0 c1 HB HE hal
          go_loopw [4, 48] (fun s4 s48 wr => ∃ (j : Nat) (H2 : Int), s48 = .int .i64 (j : Int) ∧ s4 = .int .i64 H2 ∧ j ≤ n0 ∧ (0 ≤ H2 ∧ H2 ≤ 800 * (i : Int) + 100 * (j : Int)) ∧ Hid (H2 = highs (L.take i) + sumI (((edgs ps).take j).map edH)) ∧ Hid (Below w.heap.size w wr) ∧ Hid (LnsE wr (some a) es') ∧ Hid (Pts wr A0 ps) ∧ Hid (Var wr b #[.slice A0 n0 k0, .bool cl] 38)) (fun _ s48 _ => n0 - (intOf s48).toNat)
          case atStart => exact ⟨0, H, rfl, rfl, Nat.zero_le _, by omega, hid (by rw [HH.out]; simp [sumI]), HB2, HE2, HP2, HV2⟩
          case round =>
            clear HB2 HE2 HP2 HV2
            obtain ⟨X, rfl⟩ : ∃ X, X = wr := ⟨_, rfl⟩
            obtain ⟨j, H2, rfl, rfl, hj, hH2, HH2, HB, HE, HP, HV⟩ := hrel
            by_cases hjn : j < n0
            · have hjni : (j : Int) < (n0 : Int) := by omega
              have hjp : j < ps.length := by rw [← HN0.out]; exact hjn
              obtain ⟨jn, hjn2⟩ : ∃ jn, jn = (j + 1) % n0 := ⟨_, rfl⟩
              have HJN := hid hjn2.symm
              have HJL := hid (show jn < n0 by rw [hjn2]; exact Nat.mod_lt _ (by omega))
              clear hjn2
              have hnp : jn < ps.length := by rw [← HN0.out]; exact HJL.out
              obtain ⟨ap, rfl, hapl, hsp⟩ := HP.out.at_ hjp
              obtain ⟨ap2, e2, -, hsq⟩ := HP.out.at_ hnp
              cases e2
              have HST := hid (edgs_step hjp)
              have hdj : ps.getD j default = ps[j] := by simp [hjp]
              have hdn : ps.getD ((j + 1) % ps.length) default = ps[jn] := by rw [← HN0.out, HJN.out]; simp [hnp]
              rw [hdj, hdn] at HST
              have hpi := HIN2.out ps[j] (List.getElem_mem _)
              have hqi := HIN2.out ps[jn] (List.getElem_mem _)
              generalize ps[j] = p at hsp HST hpi
              generalize ps[jn] = q at hsq HST hqi
              clear hdj hdn
              have hyd : edH (p, q) = max (q.y - p.y) (-(q.y - p.y)) := rfl
              rw [hyd] at HST
              clear hyd
              have hmx : 0 ≤ max (q.y - p.y) (-(q.y - p.y)) ∧ max (q.y - p.y) (-(q.y - p.y)) ≤ 40 := by omega
              have HH3 := hid (show H2 + max (q.y - p.y) (-(q.y - p.y)) = highs (L.take i) + sumI (((edgs ps).take (j + 1)).map edH) by rw [HST.out, HH2.out]; omega)
              obtain ⟨p0, p1⟩ := hsp
              obtain ⟨-, q1⟩ := hsq
              have HPV := hid (Var.new X (pcel p) 40 _ rfl)
              have hbe := (Below.refl _ X).alloc (Nat.le_refl _) (.cells (pcel p) 40)
              have HQ1 := hid ((hbe.cell (p := ⟨(ap.add (jn * 2)).block, (ap.add (jn * 2)).off + 1, none⟩) (by show (ap.add (jn * 2)).block < _; rw [add_block]; exact hapl)).trans q1)
              have HQL := hid (show (⟨(ap.add (jn * 2)).block, (ap.add (jn * 2)).off + 1, none⟩ : Addr).block < (X.alloc (.cells (pcel p) 40)).heap.size by show (ap.add (jn * 2)).block < _; rw [add_block]; exact Nat.lt_of_lt_of_le hapl hbe.size)
              have HB3 := hid (below_next HB.out hbe)
              have HE3 := hid (HE.out.next hbe)
              have HP3 := hid (HP.out.next hbe)
              have HV3 := hid (HV.out.next hbe)
              clear HB HE HP HV q1 hbe HST HH2 hapl
              go_upto_region 21 with fail
              clear p0 p1
              rename_i Kn hKn
              obtain ⟨X3, hX3⟩ : ∃ X3, X3 = X.alloc (.cells (pcel p) 40) := ⟨_, rfl⟩
              rw [← hX3] at HPV HQ1 HQL HB3 HE3 HP3 HV3
              rw [← hX3]
              clear hX3
              have HV := HV3
              clear HV3
              refine wpIn_wide.1 (grow_round (F := Fence.wide) (n := 0) (by kernel_rfl) (by kernel_rfl) (by kernel_rfl) ?_)
              refine gq_val (v := .int .i64 H2) (fun _ => trivial) rfl (fun w' hw' => rfl) ?_
              simp only [Act.put, List.setIfInBounds_toArray, List.set_cons_succ, List.set_cons_zero]
              refine gq_val (v := .pointer (some ⟨b, 0, none⟩)) (fun _ => trivial) rfl (fun w' hw' => run_fldL0 rfl) ?_
              simp only [Act.put, List.setIfInBounds_toArray, List.set_cons_succ, List.set_cons_zero]
              refine gq_val (v := .slice (some ap) n0 k0) (fun _ => trivial) rfl (fun w' hw' => run_loadPsl rfl ((HV.out.next hw').cell 0)) ?_
              simp only [Act.put, List.setIfInBounds_toArray, List.set_cons_succ, List.set_cons_zero]
              refine gq_val (v := .int .i64 (j : Int)) (fun _ => trivial) rfl (fun w' hw' => rfl) ?_
              simp only [Act.put, List.setIfInBounds_toArray, List.set_cons_succ, List.set_cons_zero]
              refine gq_val (v := .int .i64 ((j : Int) + 1)) (fun _ => trivial) rfl (fun w' hw' => run_add rfl rfl (by unfold Rg; omega)) ?_
              simp only [Act.put, List.setIfInBounds_toArray, List.set_cons_succ, List.set_cons_zero]
              refine gq_val (v := .pointer (some ⟨b, 0, none⟩)) (fun _ => trivial) rfl (fun w' hw' => run_fldL0 rfl) ?_
              simp only [Act.put, List.setIfInBounds_toArray, List.set_cons_succ, List.set_cons_zero]
              refine gq_val (v := .slice (some ap) n0 k0) (fun _ => trivial) rfl (fun w' hw' => run_loadPsl rfl ((HV.out.next hw').cell 0)) ?_
              simp only [Act.put, List.setIfInBounds_toArray, List.set_cons_succ, List.set_cons_zero]
              refine gq_val (v := .int .i64 (n0 : Int)) (fun _ => trivial) rfl (fun w' hw' => run_lenPts rfl) ?_
              simp only [Act.put, List.setIfInBounds_toArray, List.set_cons_succ, List.set_cons_zero]
              refine gq_val (v := .int .i64 (jn : Int)) (fun _ => trivial) rfl (fun w' hw' => run_remN rfl rfl HJN.out (by omega)) ?_
              simp only [Act.put, List.setIfInBounds_toArray, List.set_cons_succ, List.set_cons_zero]
              refine gq_val (v := .pointer (some (ap.add (jn * 2)))) (fun _ => trivial) rfl (fun w' hw' => run_indexPN rfl rfl HJL.out) ?_
              simp only [Act.put, List.setIfInBounds_toArray, List.set_cons_succ, List.set_cons_zero]
              refine gq_val (v := .pointer (some ⟨(ap.add (jn * 2)).block, (ap.add (jn * 2)).off + 1, none⟩)) (fun _ => trivial) rfl (fun w' hw' => run_fldP1c rfl) ?_
              simp only [Act.put, List.setIfInBounds_toArray, List.set_cons_succ, List.set_cons_zero]
              refine gq_val (v := .int .i64 q.y) (fun _ => trivial) rfl (fun w' hw' => run_loadInt rfl ((hw'.cell HQL.out).trans HQ1.out)) ?_
              simp only [Act.put, List.setIfInBounds_toArray, List.set_cons_succ, List.set_cons_zero]
              refine gq_val (v := .pointer (some ⟨X.heap.size, 1, none⟩)) (fun _ => trivial) rfl (fun w' hw' => run_fldP1b rfl) ?_
              simp only [Act.put, List.setIfInBounds_toArray, List.set_cons_succ, List.set_cons_zero]
              refine gq_val (v := .int .i64 p.y) (fun _ => trivial) rfl (fun w' hw' => run_loadInt rfl ((HPV.out.next hw').cell 1)) ?_
              simp only [Act.put, List.setIfInBounds_toArray, List.set_cons_succ, List.set_cons_zero]
              refine gq_val (v := .int .i64 (q.y - p.y)) (fun _ => trivial) rfl (fun w' hw' => run_sub rfl rfl (by unfold Rg; omega)) ?_
              simp only [Act.put, List.setIfInBounds_toArray, List.set_cons_succ, List.set_cons_zero]
              refine gq_call (v := .int .i64 (max (q.y - p.y) (-(q.y - p.y)))) (f := 20) (args := #[.int .i64 (q.y - p.y)]) (fun _ => trivial) rfl rfl (fun _ => run_call1 rfl enters_ksize) (fun w' hw' => (callsIn_wide.2 (ksize_any (q.y - p.y) w' (by omega))).mono fun e w'' he => ⟨he.1, he.2 ▸ hw'⟩) ?_
              simp only [Act.put, List.setIfInBounds_toArray, List.set_cons_succ, List.set_cons_zero]
              refine gq_val (v := .int .i64 (H2 + max (q.y - p.y) (-(q.y - p.y)))) (fun _ => trivial) rfl (fun w' hw' => run_add rfl rfl (by unfold Rg; omega)) ?_
              simp only [Act.put, List.setIfInBounds_toArray, List.set_cons_succ, List.set_cons_zero]
              refine gq_val (v := .int .i64 (H2 + max (q.y - p.y) (-(q.y - p.y)))) (fun _ => trivial) rfl (fun w' hw' => rfl) ?_
              simp only [Act.put, List.setIfInBounds_toArray, List.set_cons_succ, List.set_cons_zero]
              refine wpQuietIn_nil ?_
              rintro X4 hb4
              refine hKn _ _ ?_
              have HB4 := hid (below_next HB3.out hb4)
              have HE4 := hid (HE3.out.next hb4)
              have HP4 := hid (HP3.out.next hb4)
              have HV4 := hid (HV.out.next hb4)
              clear hb4 HB3 HE3 HP3 HV hKn Kn HPV HQ1 HQL
              generalize max (q.y - p.y) (-(q.y - p.y)) = D at hmx HH3 ⊢
              go_wp2_with fail
              go_roundw
              case rel => exact ⟨j + 1, H2 + D, by go_num, rfl, by omega, by omega, HH3, HB4, HE4, HP4, HV4⟩
              case measure => simp [intOf]; omega
            · have hj2 : j = n0 := by omega
              have hjni : ¬ (j : Int) < (n0 : Int) := by omega
              have HH3 := hid (show H2 = highs (L.take (i + 1)) by rw [HHS.out, HH2.out, show (edgs ps).take j = edgs ps from List.take_of_length_le (by rw [edgs_len, ← HN0.out]; omega)])
              clear HH2 hj2
              go_wp2_with fail
              go_roundw
              case rel => exact ⟨i + 1, H2, by go_num, rfl, by omega, by omega, HH3, HB, HE⟩
              case measure => simp [intOf]; omega
        · have him2 : i = m := by omega
          have himi : ¬ (i : Int) < (m : Int) := by omega
          have HH2 := hid (show H = highs L by have := HH.out; rw [this, List.take_of_length_le (by rw [← HMI.out]; omega)])
          go_wp2_with fail
          have HAB := hid (area_bound (ls := L) (lo := -20) (n := 41) fun l hl p hp => by have := HIN.out l hl p hp; unfold Win; omega)
          (with_reducible refine (area2_ok A' L m c' _ HMI.out (by unfold maxLen; omega) (HL.out ▸ HE.out.lns) HOK.out).mono ?_); rintro e w4 ⟨rfl, hb⟩
          have HB4 := hid (below_next HB.out hb)
          clear hb HB HE
          obtain ⟨hA1, hA2, hA3⟩ := HAR.out
          rw [hA1]
          clear hA1 HAR
          have hab := HAB.out
          rw [← HS.out, ← HH2.out] at hab
          clear HAB HS HH2 HH
          generalize area2 L = V at hA2 hA3 hab ⊢
          go_wp2_with fail
          (with_reducible refine (ksize_any _ _ (by omega)).mono ?_); rintro e w5 ⟨rfl, rfl⟩
          have hle : max (2 * S - V) (-(2 * S - V)) ≤ H := by omega
          go_wp2_with fail
          go_ret
          exact ⟨by simp, HB4.out⟩
end Go.Proofs.Ytijkoaggcmgjiaa
