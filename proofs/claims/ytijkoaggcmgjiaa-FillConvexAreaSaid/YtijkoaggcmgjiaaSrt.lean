/- Slopes and steps that slices.SortFunc sorts, by the kit's contract at this program. -/
import Derived.Test.YtijkoaggcmgjiaaShelf
import Derived.Test.YtijkoaggcmgjiaaWalk
import Derived.Test.YtijkoaggcmgjiaaOws
import Derived.Lib.OwnBridge
import Derived.Shelf.SlSortCmp.NoneTotal
namespace Go.Proofs.Ytijkoaggcmgjiaa
open Go Go.RowKit
set_option linter.unusedVariables false

def encS (p : Sl) : List Value := (slc p).toList
def cmpS (p q : Sl) : Int := cmpI p.t.y q.t.y
theorem compareS (p q : Sl) (w : World) : Calls Try.prog 84 #[slv p, slv q] w fun e w' => e = .returned (.int .i64 (cmpS p q)) ∧ ∃ n os', w' = Sort.grow (w.drewN n) os' := by
  unfold cmpS
  go_enter Try.func84, Try.ntmps84
  go_wp2_with (go_at_call 85; (with_reducible refine (cmpC_any _ _ _).mono ?_); rintro e w' ⟨rfl, rfl⟩)
  go_ret
  exact ⟨rfl, 0, _, by rw [Sort.alloc_eq_grow, Sort.alloc_eq_grow, Sort.grow_grow]; rfl⟩
theorem ltS_eq (p q : Sl) : ltOf cmpS p q = decide (p.t.y < q.t.y) := by
  unfold ltOf cmpS cmpI
  exact decide_eq_decide.2 (by split <;> (try split) <;> omega)
theorem swoS : Sort.SWO (ltOf cmpS) where
  irrefl x := by rw [ltS_eq]; simp
  trans x y z h1 h2 := by rw [ltS_eq] at *; simp only [decide_eq_true_eq] at *; omega
  ntrans x y z h1 h2 := by rw [ltS_eq] at *; simp only [decide_eq_false_iff_not] at *; omega
def encT (p : Stp) : List Value := (tcel p).toList
def cmpT (p q : Stp) : Int := cmpI p.x q.x
theorem compareT (p q : Stp) (w : World) : Calls Try.prog 88 #[tpv p, tpv q] w fun e w' => e = .returned (.int .i64 (cmpT p q)) ∧ ∃ n os', w' = Sort.grow (w.drewN n) os' := by
  unfold cmpT
  go_enter Try.func88, Try.ntmps88
  go_wp2_with (go_at_call 85; (with_reducible refine (cmpC_any _ _ _).mono ?_); rintro e w' ⟨rfl, rfl⟩)
  go_ret
  exact ⟨rfl, 0, _, by rw [Sort.alloc_eq_grow, Sort.alloc_eq_grow, Sort.grow_grow]; rfl⟩
theorem ltT_eq (p q : Stp) : ltOf cmpT p q = decide (p.x < q.x) := by
  unfold ltOf cmpT cmpI
  exact decide_eq_decide.2 (by split <;> (try split) <;> omega)
theorem swoT : Sort.SWO (ltOf cmpT) where
  irrefl x := by rw [ltT_eq]; simp
  trans x y z h1 h2 := by rw [ltT_eq] at *; simp only [decide_eq_true_eq] at *; omega
  ntrans x y z h1 h2 := by rw [ltT_eq] at *; simp only [decide_eq_false_iff_not] at *; omega

theorem own_put {w : World} {B e size g n cap q : Nat} {xs : List Value} {F : Array Value} {os : Array Obj} (h : w.ownsRow B e size (.slice (some ⟨g, 0, none⟩) n cap) n xs) (hF : F.size = n * size) :
    (Sort.grow (Sort.putRow id (Sort.ahead w q) g 0 F) os).ownsRow B e size (.slice (some ⟨g, 0, none⟩) n cap) n F.toList := by
  rcases h.2 with ⟨e0, _⟩ | ⟨g', cap', cur, e0, hb, hg, hn, hm, hs, ht⟩
  · cases e0
  · injection e0 with e1 _ e3
    injection e1 with e1
    injection e1 with e1
    subst e1; subst e3
    have hgl : g < w.heap.size := (Array.getElem?_eq_some_iff.1 hg).1
    refine ⟨by simp [hF], .inr ⟨g, cap, Sort.putCells id 0 F cur, rfl, hb, ?_, hn, hm, by simpa [Sort.putCells] using hs, ?_⟩⟩
    · have h1 : (Sort.putRow id (Sort.ahead w q) g 0 F).heap[g]? = some (.cells (Sort.putCells id 0 F cur) e (0, 0)) := by
        simp [Sort.putRow, Sort.mapBlock, Sort.ahead, Array.getElem?_modify, hg, Sort.onCells]
      simp only [Sort.grow]
      rw [Array.getElem?_append_left (by simpa [Sort.putRow, Sort.mapBlock, Sort.ahead] using hgl)]
      exact h1
    · apply List.ext_getElem?
      intro j
      rw [List.getElem?_take, Array.getElem?_toList, Array.getElem?_toList]
      have hnc : n * size ≤ cap * size := Nat.mul_le_mul_right size hn
      by_cases hj : j < n * size
      · have hjc : j < cur.size := by omega
        simp only [if_pos hj, Sort.putCells, Array.getElem?_mapIdx, Array.getElem?_eq_getElem hjc, Option.map_some]
        rw [if_pos (by simp; omega), Array.getElem?_eq_getElem (by omega)]
        simp [getElem!_pos, show j < F.size by omega]
      · rw [if_neg hj, Array.getElem?_eq_none (by omega)]
theorem gr_put {w : World} {g q : Nat} {F : Array Value} {os : Array Obj} : w.grownBy (Sort.grow (Sort.putRow id (Sort.ahead w q) g 0 F) os) (some g) := by
  refine ⟨rfl, rfl, rfl, ?_, fun k hk hne => ?_⟩
  · simp [Sort.grow, Sort.putRow, Sort.mapBlock, Sort.ahead]
  · simp only [Sort.grow]
    rw [Array.getElem?_append_left (by simpa [Sort.putRow, Sort.mapBlock, Sort.ahead] using hk)]
    simp [Sort.putRow, Sort.mapBlock, Sort.ahead, Array.getElem?_modify, show g ≠ k from fun e => hne (by rw [e])]

theorem flatS_K (xs : List Sl) : flatS xs = (Sort.flatK encS 5 xs.toArray).toList := by
  refine List.ext_getElem? fun t => ?_
  rcases Nat.lt_or_ge t (xs.length * 5) with h | h
  · have hq : t / 5 < xs.length := by omega
    have h3 := flatS_get xs (t / 5) (t % 5) _ (List.getElem?_eq_getElem hq) (by omega)
    rw [show t / 5 * 5 + t % 5 = t by omega] at h3
    rw [h3, Array.getElem?_toList, getElem?_pos _ t (by simpa using h)]
    have h4 := Sort.get_flatK encS 5 xs.toArray t (by simpa using h)
    rw [getElem!_pos _ t (by simpa using h)] at h4
    rw [h4, show xs.toArray[t / 5]! = xs[t / 5] by simp [hq]]
    rcases (show t % 5 = 0 ∨ t % 5 = 1 ∨ t % 5 = 2 ∨ t % 5 = 3 ∨ t % 5 = 4 by omega) with hm | hm | hm | hm | hm <;> rw [hm] <;> rfl
  · rw [List.getElem?_eq_none (by rw [flatS_length]; exact h), List.getElem?_eq_none (by simpa using h)]
theorem own_holdsS {w : World} {B g c : Nat} {xs : List Sl} (h : OwnS w B (.slice (some ⟨g, 0, none⟩) xs.length c) xs) : Sort.HoldsK encS 5 w g 0 xs.toArray := by
  intro t ht
  have h1 := World.ownsRow.cellAt h t (by rwa [Sort.size_flatK, List.size_toArray] at ht)
  have h2 := World.ownsRow.frozenAt h t
  rw [Nat.zero_add]
  refine ⟨h1.trans ?_, h2⟩
  rw [flatS_K, Array.getElem?_toList, getElem?_pos _ t ht, getElem!_pos _ t ht]
  rfl
theorem sortS_any (v : Value) (xs : List Sl) (B : Nat) (w : World) (hB : B ≤ w.heap.size) (ho : OwnS w B v xs) (hl : xs.length ≤ 5000000000) :
    Calls Try.prog 83 #[v, .func (.func 84) #[] #[]] w fun e w' => e = .returned (.tuple #[]) ∧ ∃ qs, qs.Perm xs ∧ List.Pairwise (fun p q => p.t.y ≤ q.t.y) qs ∧ OwnS w' B v qs ∧ Gr v v w w' := by
  rcases ho.2 with ⟨rfl, h0⟩ | ⟨g, cap, cur, rfl, hb, -⟩
  · have e0 : xs = [] := List.eq_nil_of_length_eq_zero h0
    subst e0
    have hcon := AnyF.slices_SortFunc_none Try.sortS none 0 (.func (.func 84) #[] #[]) w
    refine Calls.mono hcon ?_
    rintro e w' ⟨rfl, rfl⟩
    exact ⟨rfl, [], List.Perm.nil, List.Pairwise.nil, ho, Gr.refl _ _⟩
  · have hgl : g < w.heap.size := (ho.ge g rfl).2
    have eg : ∀ args w, (callFunc 84 args).run Try.prog w = .ok (.enter 84 args) w := enters_of Try.func84 (by kernel_rfl) rfl
    have hcon := AnyQ.slices_SortFunc Try.sortS 5 Try.isAgg77 Try.sizeOf77 encS (fun _ => rfl) (fun x v hv => by simp [encS] at hv; rcases hv with rfl | rfl | rfl | rfl | rfl <;> rfl) cmpS swoS 84 #[] g 0 cap xs.toArray w eg
      (fun m os dk _ x y => compareS x y _) (own_holdsS ho) hgl (by simp; omega)
    rw [List.size_toArray] at hcon
    refine Calls.mono hcon ?_
    rintro e w' ⟨rfl, d', n, os, hp, hs, rfl⟩
    have hsz : d'.size = xs.length := by simpa using hp.1
    have hps : d'.toList.Perm xs := by
      have := hp.2.2
      have e1 : d'.extract 0 xs.length = d' := by rw [← hsz]; simp
      simpa [e1] using this
    refine ⟨rfl, d'.toList, hps, ?_, ?_, ?_⟩
    · refine List.pairwise_iff_getElem.2 fun i j hi hj hij => ?_
      have hi' : i < d'.size := by simpa using hi
      have hj' : j < d'.size := by simpa using hj
      have := hs i j (Nat.zero_le _) hij (by omega)
      rw [ltS_eq, getElem!_pos d' i hi', getElem!_pos d' j hj'] at this
      simpa using this
    · have h5 := own_put (F := Sort.flatK encS 5 d') (q := n) (os := os) ho (by rw [Sort.size_flatK, hsz])
      unfold OwnS
      rw [flatS_K, show d'.toList.length = xs.length by simpa using hsz, Array.toArray_toList]
      exact h5
    · refine ⟨gr_put, fun k hk => .inl hk⟩

theorem flatT_K (xs : List Stp) : flatT xs = (Sort.flatK encT 2 xs.toArray).toList := by
  refine List.ext_getElem? fun t => ?_
  rcases Nat.lt_or_ge t (xs.length * 2) with h | h
  · have hq : t / 2 < xs.length := by omega
    have h3 := flatT_get xs (t / 2) (t % 2) _ (List.getElem?_eq_getElem hq) (by omega)
    rw [show t / 2 * 2 + t % 2 = t by omega] at h3
    rw [h3, Array.getElem?_toList, getElem?_pos _ t (by simpa using h)]
    have h4 := Sort.get_flatK encT 2 xs.toArray t (by simpa using h)
    rw [getElem!_pos _ t (by simpa using h)] at h4
    rw [h4, show xs.toArray[t / 2]! = xs[t / 2] by simp [hq]]
    rcases (show t % 2 = 0 ∨ t % 2 = 1 by omega) with hm | hm <;> rw [hm] <;> rfl
  · rw [List.getElem?_eq_none (by rw [flatT_length]; exact h), List.getElem?_eq_none (by simpa using h)]
theorem own_holdsT {w : World} {B g c : Nat} {xs : List Stp} (h : OwnT w B (.slice (some ⟨g, 0, none⟩) xs.length c) xs) : Sort.HoldsK encT 2 w g 0 xs.toArray := by
  intro t ht
  have h1 := World.ownsRow.cellAt h t (by rwa [Sort.size_flatK, List.size_toArray] at ht)
  have h2 := World.ownsRow.frozenAt h t
  rw [Nat.zero_add]
  refine ⟨h1.trans ?_, h2⟩
  rw [flatT_K, Array.getElem?_toList, getElem?_pos _ t ht, getElem!_pos _ t ht]
  rfl
theorem sortT_any (v : Value) (xs : List Stp) (B : Nat) (w : World) (hB : B ≤ w.heap.size) (ho : OwnT w B v xs) (hl : xs.length ≤ 5000000000) :
    Calls Try.prog 87 #[v, .func (.func 88) #[] #[]] w fun e w' => e = .returned (.tuple #[]) ∧ ∃ qs, qs.Perm xs ∧ List.Pairwise (fun p q => p.x ≤ q.x) qs ∧ OwnT w' B v qs ∧ Gr v v w w' := by
  rcases ho.2 with ⟨rfl, h0⟩ | ⟨g, cap, cur, rfl, hb, -⟩
  · have e0 : xs = [] := List.eq_nil_of_length_eq_zero h0
    subst e0
    have hcon := AnyF.slices_SortFunc_none Try.sortT none 0 (.func (.func 88) #[] #[]) w
    refine Calls.mono hcon ?_
    rintro e w' ⟨rfl, rfl⟩
    exact ⟨rfl, [], List.Perm.nil, List.Pairwise.nil, ho, Gr.refl _ _⟩
  · have hgl : g < w.heap.size := (ho.ge g rfl).2
    have eg : ∀ args w, (callFunc 88 args).run Try.prog w = .ok (.enter 88 args) w := enters_of Try.func88 (by kernel_rfl) rfl
    have hcon := AnyQ.slices_SortFunc Try.sortT 2 Try.isAgg124 Try.sizeOf124 encT (fun _ => rfl) (fun x v hv => by simp [encT] at hv; rcases hv with rfl | rfl <;> rfl) cmpT swoT 88 #[] g 0 cap xs.toArray w eg
      (fun m os dk _ x y => compareT x y _) (own_holdsT ho) hgl (by simp; omega)
    rw [List.size_toArray] at hcon
    refine Calls.mono hcon ?_
    rintro e w' ⟨rfl, d', n, os, hp, hs, rfl⟩
    have hsz : d'.size = xs.length := by simpa using hp.1
    have hps : d'.toList.Perm xs := by
      have := hp.2.2
      have e1 : d'.extract 0 xs.length = d' := by rw [← hsz]; simp
      simpa [e1] using this
    refine ⟨rfl, d'.toList, hps, ?_, ?_, ?_⟩
    · refine List.pairwise_iff_getElem.2 fun i j hi hj hij => ?_
      have hi' : i < d'.size := by simpa using hi
      have hj' : j < d'.size := by simpa using hj
      have := hs i j (Nat.zero_le _) hij (by omega)
      rw [ltT_eq, getElem!_pos d' i hi', getElem!_pos d' j hj'] at this
      simpa using this
    · have h5 := own_put (F := Sort.flatK encT 2 d') (q := n) (os := os) ho (by rw [Sort.size_flatK, hsz])
      unfold OwnT
      rw [flatT_K, show d'.toList.length = xs.length by simpa using hsz, Array.toArray_toList]
      exact h5
    · refine ⟨gr_put, fun k hk => .inl hk⟩
end Go.Proofs.Ytijkoaggcmgjiaa
