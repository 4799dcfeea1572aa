/- Rows of points that a call owns. -/
import Derived.Test.YtldbpabnfjnpbaaCmbB
import Derived.Lib.SliceRun
namespace Go.Proofs.Ytldbpabnfjnpbaa
open Go Go.RowKit
set_option linter.unusedVariables false

/-- The cells of runs, one behind the other. -/
def flatP (ss : List P2) : List Value := ss.flatMap fun s => (pcel s).toList
theorem flatP_cons (s : P2) (r : List P2) : flatP (s :: r) = (pcel s).toList ++ flatP r := rfl
theorem flatP_append (a b : List P2) : flatP (a ++ b) = flatP a ++ flatP b := by simp [flatP]
theorem flatP_length : ∀ ss : List P2, (flatP ss).length = ss.length * 2
  | [] => rfl
  | s :: r => by rw [flatP_cons, List.length_append, flatP_length r]; simp; omega
theorem flatP_get : ∀ (ss : List P2) (i j : Nat) (s : P2), ss[i]? = some s → j < 2 → (flatP ss)[i * 2 + j]? = (pcel s)[j]?
  | [], i, j, s, h, _ => by simp at h
  | g :: r, 0, j, s, h, hj => by
    obtain rfl : g = s := by simpa using h
    rw [flatP_cons, List.getElem?_append_left (by simpa using by omega)]
    simp
  | g :: r, i + 1, j, s, h, hj => by
    have h' : r[i]? = some s := by simpa using h
    rw [flatP_cons, List.getElem?_append_right (by simp; omega)]
    rw [show (i + 1) * 2 + j - (pcel g).toList.length = i * 2 + j by simp; omega]
    exact flatP_get r i j s h' hj

/-- A block whose first cells are those of the runs. -/
theorem pts_block {w : World} {g : Nat} {ss : List P2} (hg : g < w.heap.size) (h : ∀ j u, (flatP ss)[j]? = some u → w.cell? ⟨g, j, none⟩ = some u) : Pts w (some ⟨g, 0, none⟩) ss := fun _ => ⟨_, rfl, hg, fun i s hs => ptAt_of fun j hj => by
  have e : (⟨g, 0, none⟩ : Addr).add (i * 2) = ⟨g, i * 2, none⟩ := by unfold Addr.add; split <;> simp_all
  have e' : (⟨g, i * 2, none⟩ : Addr).add j = ⟨g, i * 2 + j, none⟩ := by unfold Addr.add; split <;> simp_all
  have h1 := flatP_get ss i j s hs hj
  have h2 : (pcel s)[j]? = some ((pcel s)[j]'(by simpa using hj)) := Array.getElem?_eq_getElem _
  rw [e, e', h2]
  exact h _ _ (h1.trans h2)⟩
theorem Var.pts {w : World} {g : Nat} {ss : List P2} {t : TypeId} (h : Var w g (flatP ss).toArray t) : Pts w (some ⟨g, 0, none⟩) ss := pts_block h.lt fun j u hu => by
  rw [h.cell]
  simpa using hu
theorem own_pts {w : World} {B n : Nat} {v : Value} {ss : List P2} (h : w.ownsRow B 31 2 v n (flatP ss)) : ∃ A c, v = .slice A n c ∧ n = ss.length ∧ Pts w A ss := by
  have hl : n = ss.length := by have := h.1; rw [flatP_length] at this; omega
  rcases h.2 with ⟨rfl, h0⟩ | ⟨g, cap, cur, rfl, hB, hg, hnc, hcm, hcs, htake⟩
  · subst h0
    have : ss = [] := List.eq_nil_of_length_eq_zero hl.symm
    subst this
    exact ⟨none, 0, rfl, rfl, Pts.nil _ _⟩
  · refine ⟨some ⟨g, 0, none⟩, cap, rfl, hl, pts_block (Array.getElem?_eq_some_iff.1 hg).1 fun j u hu => ?_⟩
    have := h.cells (g := g) rfl j u hu
    rwa [show (⟨g, 0, none⟩ : Addr).add j = ⟨g, j, none⟩ by unfold Addr.add; split <;> simp_all] at this

theorem infoPt : (Try.prog.info? 31).map (fun i => (i.zero, i.size, i.bytes)) = some (some (ptv ⟨0, 0⟩), 2, 16) := by kernel_rfl

theorem flatP_int (ys : List P2) : ∀ u ∈ flatP ys, u.oneCell' = true := by
  intro u hu
  unfold flatP at hu
  obtain ⟨s, -, h⟩ := List.mem_flatMap.1 hu
  simp only [List.mem_cons, List.not_mem_nil, or_false] at h
  rcases h with rfl | rfl <;> rfl

/-- The slice v holds these runs in a block of its own, above B (or is nil). -/
def OwnP (w : World) (B : Nat) (v : Value) (xs : List P2) : Prop := w.ownsRow B 31 2 v xs.length (flatP xs)
theorem OwnP.nil (w : World) (B : Nat) : OwnP w B (.slice none 0 0) [] := World.ownsRow_nil w B _ 2
theorem OwnP.next {w w' : World} {B : Nat} {v : Value} {xs : List P2} (h : OwnP w B v xs) (hb : Below w.heap.size w w') : OwnP w' B v xs := own_next h hb
theorem OwnP.drew {w : World} {B : Nat} {v : Value} {xs : List P2} (h : OwnP w B v xs) : OwnP w.drew B v xs := h
theorem OwnP.mono {w : World} {B B' : Nat} {v : Value} {xs : List P2} (h : OwnP w B v xs) (hb : B' ≤ B) : OwnP w B' v xs := by
  refine ⟨h.1, ?_⟩
  rcases h.2 with h1 | ⟨g, cap, cur, hv, hB, hh, hr⟩
  · exact .inl h1
  · exact .inr ⟨g, cap, cur, hv, Nat.le_trans hb hB, hh, hr⟩
theorem OwnP.keep {w w' : World} {B : Nat} {v : Value} {xs : List P2} (h : OwnP w B v xs) (hk : ∀ k, v.ownBlock = some k → w'.heap[k]? = w.heap[k]?) : OwnP w' B v xs := by
  refine ⟨h.1, ?_⟩
  rcases h.2 with h1 | ⟨g, cap, cur, hv, hB, hh, hr⟩
  · exact .inl h1
  · exact .inr ⟨g, cap, cur, hv, hB, (hk g (by rw [hv]; rfl)).trans hh, hr⟩

theorem OwnP.is {w : World} {B : Nat} {v : Value} {xs : List P2} (h : OwnP w B v xs) : ∃ A c, v = .slice A xs.length c ∧ Pts w A xs := by
  obtain ⟨A, c, h1, -, h3⟩ := own_pts h
  exact ⟨A, c, h1, h3⟩
theorem OwnP.ge {w : World} {B : Nat} {v : Value} {xs : List P2} (h : OwnP w B v xs) : ∀ k, v.ownBlock = some k → B ≤ k ∧ k < w.heap.size := World.ownsRow.lt h
theorem OwnP.one {w : World} {B : Nat} {v : Value} {xs : List P2} (h : OwnP w B v xs) (hn : xs ≠ []) : ∃ g c, v = .slice (some ⟨g, 0, none⟩) xs.length c ∧ B ≤ g ∧ g < w.heap.size ∧ xs.length ≤ c := by
  obtain ⟨g, cap, h1, h2, h3⟩ := World.ownsRow.form h (List.length_pos_iff.2 hn)
  subst h1
  exact ⟨g, cap, rfl, own_at h⟩

/-- append of one run, out of a literal's block. -/
theorem append_pt {w : World} {B : Nat} {v : Value} {xs : List P2} {s : P2} {ty : TypeId} (hB : B ≤ w.heap.size) (hown : OwnP w B v xs) (hl : xs.length ≤ 5000000000) :
    ∃ v' w', (Builtin.append_ #[26, 26] ty #[v, .slice (some ⟨w.heap.size, 0, none⟩) 1 1]).run Try.prog (w.alloc (.cells (pcel s) 31)) = .ok v' w' ∧ OwnP w' B v' (xs ++ [s]) ∧ Gr v v' w w' := by
  obtain ⟨i0, hi, hz0, hz1, hz2⟩ := info_parts infoPt
  have hown1 := World.ownsRow.alloc hown (.cells (pcel s) 31)
  obtain ⟨g, c, w', h1, h2, h3, h4, h5⟩ := run_append_lies (P := Try.prog) (w := w.alloc (.cells (pcel s) 31)) 26 ty B 31 i0 _ 2 16 Try.underlying26 hi hz0 hz1 hz2 rfl (by decide) v xs.length (flatP xs) hown1
    ⟨w.heap.size, 0, none⟩ 1 1 (pcel s).toList rfl (fun j u hu => by
      have hV := (Var.new w (pcel s) 31 _ rfl).cell j
      rw [show (⟨w.heap.size, 0, none⟩ : Addr).add j = ⟨w.heap.size, j, none⟩ by unfold Addr.add; split <;> simp_all, hV]
      simpa using hu) (fun u hu => by
      simp only [List.mem_cons, List.not_mem_nil, or_false] at hu
      rcases hu with rfl | rfl <;> rfl) (by decide) (by unfold maxLen; omega) (by omega) (by simp; omega) _ rfl
  refine ⟨_, w', h1, ?_, ?_⟩
  · unfold OwnP
    rw [flatP_append, List.length_append]
    simpa [flatP] using h2
  · refine (Gr.of_below (v := v) ((Below.refl w.heap.size w).alloc (Nat.le_refl _) (.cells (pcel s) 31))).trans ⟨h3, fun k hk => ?_⟩
    rcases h4 with h4 | h4
    · refine .inl (h4.trans ?_)
      simpa [Value.ownBlock] using hk
    · refine .inr ?_
      have : g = k := by simpa [Value.ownBlock] using hk
      omega


theorem run_litP0 {ρ : Operand → Value} {dst : Option Tmp} {ty : TypeId} {pos : String} {af : Array Edge} {w : World} {gd : Option (Nat × Bool)} :
    (execOp ρ { dst := dst, op := .buildSlice 26 0 #[], type := ty, pos := pos, after := af, guard := gd }).run Try.prog w = .ok (.value (.slice (some ⟨w.heap.size, 0, none⟩) 0 0)) (w.alloc (.cells #[] 31)) := by
  go_simp
theorem OwnP.lit0 (w : World) : OwnP (w.alloc (.cells #[] 31)) w.heap.size (.slice (some ⟨w.heap.size, 0, none⟩) 0 0) [] := World.ownsRow_lit w #[] 0 (Nat.le_refl _) (by decide) rfl

/-- append of runs that came in. -/
theorem append_pts {w : World} {B m c : Nat} {A : Option Addr} {v : Value} {xs ys : List P2} (hB : B ≤ w.heap.size) (hown : OwnP w B v xs) (hm : m = ys.length) (hr : Pts w A ys) (hl : xs.length + m ≤ 5000000000) :
    ∃ v' w', (∀ ty, (Builtin.append_ #[26, 26] ty #[v, .slice A m c]).run Try.prog w = .ok v' w') ∧ OwnP w' B v' (xs ++ ys) ∧ Gr v v' w w' := by
  obtain ⟨i0, hi, hz0, hz1, hz2⟩ := info_parts infoPt
  subst hm
  cases A with
  | none =>
    have hy : ys = [] := by
      cases ys with
      | nil => rfl
      | cons y r => obtain ⟨a, h, -⟩ := hr (by simp); cases h
    subst hy
    refine ⟨v, w, fun ty => ?_, by simpa using hown, Gr.refl _ _⟩
    rcases hown.2 with ⟨rfl, h0⟩ | ⟨g, cap, cur, rfl, hbg, hg, hnc, hcm, hcs, htake⟩
    · simp [Builtin.append_, run_underlying Try.underlying26, sizeOf, typeInfo, hi, Builtin.lenOf, Builtin.firstCells]
    · simp [Builtin.append_, run_underlying Try.underlying26, sizeOf, typeInfo, hi, Builtin.lenOf, Builtin.firstCells, hnc, storeCells]
  | some a =>
    have hcells : ∀ j u, (flatP ys)[j]? = some u → w.cell? (a.add j) = some u := fun j u hu => by
      have hj : j < ys.length * 2 := by
        rcases Nat.lt_or_ge j (ys.length * 2) with k | k
        · exact k
        · rw [List.getElem?_eq_none (by rw [flatP_length]; exact k)] at hu; cases hu
      obtain ⟨q, r, rfl, hrr⟩ : ∃ q r, j = q * 2 + r ∧ r < 2 := ⟨j / 2, j % 2, by omega, by omega⟩
      have hq : q < ys.length := by omega
      have h2 := flatP_get ys q r _ (List.getElem?_eq_getElem hq) hrr
      obtain ⟨a', ha, -, hc⟩ := hr (by intro e; subst e; simp at hq)
      cases ha
      have hat := hc q _ (List.getElem?_eq_getElem hq)
      rw [h2] at hu
      rw [← add_add']
      rcases (show r = 0 ∨ r = 1 by omega) with rfl | rfl
      · exact hat.c0.trans hu
      · exact hat.c1.trans hu
    obtain ⟨v', w', h1, h2, h3, h4, h5⟩ := run_append_own_at (P := Try.prog) w B 26 0 31 i0 _ 2 16 Try.underlying26 hi hz0 hz1 hz2 rfl (by decide) v xs.length (flatP xs) hown
      a ys.length c (flatP ys) (flatP_length ys) hcells (fun u hu => flatP_int ys u hu) (by unfold maxLen; omega) (by omega) hB
    refine ⟨v', w', fun ty => h1, ?_, ⟨h3, fun k hk => ?_⟩⟩
    · unfold OwnP
      rw [flatP_append, List.length_append]
      exact h2
    · rcases h5 with h5 | h5
      · exact .inl (h5 ▸ hk)
      · rw [h5] at hk
        have : w.heap.size = k := by simpa using hk
        exact .inr (by omega)

set_option maxHeartbeats 1000000 in
set_option maxRecDepth 100000 in
theorem clone_any (A : Option Addr) (ps : List P2) (n c : Nat) (w : World) (hn : n = ps.length) (hl : n ≤ 5000000000) (hs : Pts w A ps) :
    Calls Try.prog 51 #[.slice A n c] w fun e w' => ∃ v, e = .returned v ∧ OwnP w' w.heap.size v ps ∧ Below w.heap.size w w' := by
  by_cases hA : A.isNone = true
  · obtain rfl : ps = [] := by
      cases ps with
      | nil => rfl
      | cons y r => obtain ⟨a, h, -⟩ := hs (by simp); rw [h] at hA; cases hA
    clear hs hn
    have hq : ∀ w : World, (binOp .eql 26 (.slice A n c) (.slice none 0 0)).run Try.prog w = .ok (.bool true) w := fun w => by rw [Lib.run_eql_slice_nil w _ _ A n c 0 0 Try.underlying26, hA]
    go_enter Try.func51, Try.ntmps51
    go_wp2_with fail
    go_ret
    exact ⟨_, rfl, OwnP.nil _ _, Below.refl _ _⟩
  · obtain ⟨a, rfl⟩ : ∃ a, A = some a := by
      cases A with
      | none => exact absurd rfl hA
      | some a => exact ⟨a, rfl⟩
    clear hA
    have HN := hid hn
    have HS := hid hs
    clear hn hs
    have hq : ∀ w : World, (binOp .eql 26 (.slice (some a) n c) (.slice none 0 0)).run Try.prog w = .ok (.bool false) w := fun w => Lib.run_eql_slice_nil w _ _ (some a) n c 0 0 Try.underlying26
    go_enter Try.func51, Try.ntmps51
    go_upto_region 3 with fail
    rename_i Kn hKn
    refine wp_region_lit ?_
    refine sq_start (n := 8) rfl fun a0 hs0 => ?_
    have ha0 := (((hs0.pin 0 (v := .slice (some a) n c) rfl).pin 2 (v := .slice none 0 0) rfl).pin 4 (v := .bool false) rfl)
    clear hs0
    generalize (fun i => Array.getD _ i undef) = g0 at ha0
    refine sq_val (v := .slice (some ⟨w.heap.size, 0, none⟩) 0 0) ha0 rfl (run_litP0) fun a1 ha1 => ?_
    refine sq_val (v := .slice (some a) n c) ha1 rfl (rfl) fun a2 ha2 => ?_
    obtain ⟨v', w3, h1, h2, h3⟩ := append_pts (B := w.heap.size) (m := n) (c := c) (by simp) (OwnP.lit0 w) HN.out (HS.out.next (below_alloc (Below.refl _ w) _)) (by simpa using hl)
    refine sq_val (v := v') ha2 rfl (run_append rfl rfl (h1 _)) fun a3 ha3 => ?_
    refine sq_val (v := v') ha3 rfl (rfl) fun a4 ha4 => ?_
    refine wpList_nil ?_
    refine hKn _ _ ?_
    obtain ⟨g9, hg9, k0, k2, k4⟩ : ∃ g9, Is a4 8 g9 ∧ g9 0 = .slice (some a) n c ∧ g9 2 = v' ∧ g9 4 = .bool false := ⟨_, ha4, rfl, rfl, rfl⟩
    have hw := hg9.whole
    rw [show ((List.range 8).map g9).toArray = #[g9 0, g9 1, g9 2, g9 3, g9 4, g9 5, g9 6, g9 7] from rfl] at hw
    rw [k0, k2, k4] at hw
    subst hw
    clear hg9 k0 k2 k4
    have HO3 := hid (show OwnP w3 w.heap.size v' ps by simpa using h2)
    have HB3 := hid (show Below w.heap.size w w3 from (Gr.of_below (v := .slice (some ⟨w.heap.size, 0, none⟩) 0 0) (below_alloc (Below.refl _ w) _)).trans h3 |>.below (Nat.le_refl _) (fun k e => by simp [Value.ownBlock] at e; omega))
    clear h1 h2 h3
    clear ha0 ha1 ha2 ha3 ha4 hKn Kn
    go_wp2_with fail
    go_ret
    exact ⟨v', rfl, HO3.out, HB3.out⟩

end Go.Proofs.Ytldbpabnfjnpbaa
