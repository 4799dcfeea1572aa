/- Rows of sides that a call owns (made out of Ows). -/
import Derived.Test.YtjflgblplmgjlaaDwk
import Derived.Test.YtjflgblplmgjlaaOwn
import Derived.Lib.SliceRun
namespace Go.Proofs.Ytjflgblplmgjlaa
open Go Go.RowKit
set_option linter.unusedVariables false

abbrev sdc (s : Sd) : Array Value := #[.int .i64 s.f.x, .int .i64 s.f.y, .int .i64 s.t.x, .int .i64 s.t.y, .int .i64 s.b, .int .i64 s.e]
abbrev sdv (s : Sd) : Value := .agg (sdc s)
/-- The cells of one at an address. -/
structure DAt (W : World) (a : Addr) (s : Sd) : Prop where
  c0 : W.cell? a = some (.int .i64 s.f.x)
  c1 : W.cell? ⟨a.block, a.off + 1, none⟩ = some (.int .i64 s.f.y)
  c2 : W.cell? ⟨a.block, a.off + 2, none⟩ = some (.int .i64 s.t.x)
  c3 : W.cell? ⟨a.block, a.off + 3, none⟩ = some (.int .i64 s.t.y)
  c4 : W.cell? ⟨a.block, a.off + 4, none⟩ = some (.int .i64 s.b)
  c5 : W.cell? ⟨a.block, a.off + 5, none⟩ = some (.int .i64 s.e)
/-- A slice that holds them, nil and empty ones too. -/
def RowD (W : World) (A : Option Addr) (ss : List Sd) : Prop := ss ≠ [] → ∃ a, A = some a ∧ a.block < W.heap.size ∧ ∀ i s, ss[i]? = some s → DAt W (a.add (i * 6)) s
theorem dAt_of {w : World} {a : Addr} {s : Sd} (h : ∀ i, i < 6 → w.cell? (a.add i) = (sdc s)[i]?) : DAt w a s :=
  ⟨by have := h 0 (by omega); exact this, h 1 (by omega), h 2 (by omega), h 3 (by omega), h 4 (by omega), h 5 (by omega)⟩
theorem DAt.below {W W' : World} {B : Nat} {a : Addr} {s : Sd} (h : DAt W a s) (hb : Below B W W') (hl : a.block < B) : DAt W' a s := by
  have e : ∀ n, W'.cell? ⟨a.block, a.off + n, none⟩ = W.cell? ⟨a.block, a.off + n, none⟩ := fun n => hb.cell hl
  exact ⟨(hb.cell hl).trans h.c0, (e 1).trans h.c1, (e 2).trans h.c2, (e 3).trans h.c3, (e 4).trans h.c4, (e 5).trans h.c5⟩
theorem RowD.nil (W : World) (A : Option Addr) : RowD W A [] := fun h => absurd rfl h
theorem RowD.next {W W' : World} {A : Option Addr} {ss : List Sd} (h : RowD W A ss) (hb : Below W.heap.size W W') : RowD W' A ss := fun hn => by
  obtain ⟨a, rfl, hl, hr⟩ := h hn
  exact ⟨a, rfl, Nat.lt_of_lt_of_le hl hb.size, fun i s hi => (hr i s hi).below hb (by rw [add_block]; exact hl)⟩
theorem RowD.at_ {W : World} {A : Option Addr} {ss : List Sd} (h : RowD W A ss) {i : Nat} (hi : i < ss.length) : ∃ a, A = some a ∧ a.block < W.heap.size ∧ DAt W (a.add (i * 6)) ss[i] := by
  obtain ⟨a, rfl, hl, hr⟩ := h (by intro e; subst e; simp at hi)
  exact ⟨a, rfl, hl, hr i _ (List.getElem?_eq_getElem hi)⟩
/-- The cells of runs, one behind the other. -/
def flatD (ss : List Sd) : List Value := ss.flatMap fun s => (sdc s).toList
theorem flatD_cons (s : Sd) (r : List Sd) : flatD (s :: r) = (sdc s).toList ++ flatD r := rfl
theorem flatD_append (a b : List Sd) : flatD (a ++ b) = flatD a ++ flatD b := by simp [flatD]
theorem flatD_length : ∀ ss : List Sd, (flatD ss).length = ss.length * 6
  | [] => rfl
  | s :: r => by rw [flatD_cons, List.length_append, flatD_length r]; simp; omega
theorem flatD_get : ∀ (ss : List Sd) (i j : Nat) (s : Sd), ss[i]? = some s → j < 6 → (flatD ss)[i * 6 + j]? = (sdc s)[j]?
  | [], i, j, s, h, _ => by simp at h
  | g :: r, 0, j, s, h, hj => by
    obtain rfl : g = s := by simpa using h
    rw [flatD_cons, List.getElem?_append_left (by simpa using by omega)]
    simp
  | g :: r, i + 1, j, s, h, hj => by
    have h' : r[i]? = some s := by simpa using h
    rw [flatD_cons, List.getElem?_append_right (by simp; omega)]
    rw [show (i + 1) * 6 + j - (sdc g).toList.length = i * 6 + j by simp; omega]
    exact flatD_get r i j s h' hj

/-- A block whose first cells are those of the runs. -/
theorem ds_block {w : World} {g : Nat} {ss : List Sd} (hg : g < w.heap.size) (h : ∀ j u, (flatD ss)[j]? = some u → w.cell? ⟨g, j, none⟩ = some u) : RowD w (some ⟨g, 0, none⟩) ss := fun _ => ⟨_, rfl, hg, fun i s hs => dAt_of fun j hj => by
  have e : (⟨g, 0, none⟩ : Addr).add (i * 6) = ⟨g, i * 6, none⟩ := by unfold Addr.add; split <;> simp_all
  have e' : (⟨g, i * 6, none⟩ : Addr).add j = ⟨g, i * 6 + j, none⟩ := by unfold Addr.add; split <;> simp_all
  have h1 := flatD_get ss i j s hs hj
  have h2 : (sdc s)[j]? = some ((sdc s)[j]'(by simpa using hj)) := Array.getElem?_eq_getElem _
  rw [e, e', h2]
  exact h _ _ (h1.trans h2)⟩
theorem Var.ds {w : World} {g : Nat} {ss : List Sd} {t : TypeId} (h : Var w g (flatD ss).toArray t) : RowD w (some ⟨g, 0, none⟩) ss := ds_block h.lt fun j u hu => by
  rw [h.cell]
  simpa using hu
theorem own_ds {w : World} {B n : Nat} {v : Value} {ss : List Sd} (h : w.ownsRow B 72 6 v n (flatD ss)) : ∃ A c, v = .slice A n c ∧ n = ss.length ∧ RowD w A ss := by
  have hl : n = ss.length := by have := h.1; rw [flatD_length] at this; omega
  rcases h.2 with ⟨rfl, h0⟩ | ⟨g, cap, cur, rfl, hB, hg, hnc, hcm, hcs, htake⟩
  · subst h0
    have : ss = [] := List.eq_nil_of_length_eq_zero hl.symm
    subst this
    exact ⟨none, 0, rfl, rfl, RowD.nil _ _⟩
  · refine ⟨some ⟨g, 0, none⟩, cap, rfl, hl, ds_block (Array.getElem?_eq_some_iff.1 hg).1 fun j u hu => ?_⟩
    have := h.cells (g := g) rfl j u hu
    rwa [show (⟨g, 0, none⟩ : Addr).add j = ⟨g, j, none⟩ by unfold Addr.add; split <;> simp_all] at this

theorem infoD : (Try.prog.info? 72).map (fun i => (i.zero, i.size, i.bytes)) = some (some (sdv ⟨⟨0, 0⟩, ⟨0, 0⟩, 0, 0⟩), 6, 48) := by kernel_rfl

theorem flatD_int (ys : List Sd) : ∀ u ∈ flatD ys, u.oneCell' = true := by
  intro u hu
  unfold flatD at hu
  obtain ⟨s, -, h⟩ := List.mem_flatMap.1 hu
  simp only [List.mem_cons, List.not_mem_nil, or_false] at h
  rcases h with rfl | rfl | rfl | rfl | rfl | rfl <;> rfl

/-- The slice v holds these runs in a block of its own, above B (or is nil). -/
def OwnD (w : World) (B : Nat) (v : Value) (xs : List Sd) : Prop := w.ownsRow B 72 6 v xs.length (flatD xs)
theorem OwnD.nil (w : World) (B : Nat) : OwnD w B (.slice none 0 0) [] := World.ownsRow_nil w B _ 6
theorem OwnD.next {w w' : World} {B : Nat} {v : Value} {xs : List Sd} (h : OwnD w B v xs) (hb : Below w.heap.size w w') : OwnD w' B v xs := own_next h hb
theorem OwnD.drew {w : World} {B : Nat} {v : Value} {xs : List Sd} (h : OwnD w B v xs) : OwnD w.drew B v xs := h
theorem OwnD.mono {w : World} {B B' : Nat} {v : Value} {xs : List Sd} (h : OwnD w B v xs) (hb : B' ≤ B) : OwnD w B' v xs := by
  refine ⟨h.1, ?_⟩
  rcases h.2 with h1 | ⟨g, cap, cur, hv, hB, hh, hr⟩
  · exact .inl h1
  · exact .inr ⟨g, cap, cur, hv, Nat.le_trans hb hB, hh, hr⟩
theorem OwnD.keep {w w' : World} {B : Nat} {v : Value} {xs : List Sd} (h : OwnD w B v xs) (hk : ∀ k, v.ownBlock = some k → w'.heap[k]? = w.heap[k]?) : OwnD w' B v xs := by
  refine ⟨h.1, ?_⟩
  rcases h.2 with h1 | ⟨g, cap, cur, hv, hB, hh, hr⟩
  · exact .inl h1
  · exact .inr ⟨g, cap, cur, hv, hB, (hk g (by rw [hv]; rfl)).trans hh, hr⟩

theorem OwnD.is {w : World} {B : Nat} {v : Value} {xs : List Sd} (h : OwnD w B v xs) : ∃ A c, v = .slice A xs.length c ∧ RowD w A xs := by
  obtain ⟨A, c, h1, -, h3⟩ := own_ds h
  exact ⟨A, c, h1, h3⟩
theorem OwnD.ge {w : World} {B : Nat} {v : Value} {xs : List Sd} (h : OwnD w B v xs) : ∀ k, v.ownBlock = some k → B ≤ k ∧ k < w.heap.size := World.ownsRow.lt h
theorem OwnD.one {w : World} {B : Nat} {v : Value} {xs : List Sd} (h : OwnD w B v xs) (hn : xs ≠ []) : ∃ g c, v = .slice (some ⟨g, 0, none⟩) xs.length c ∧ B ≤ g ∧ g < w.heap.size ∧ xs.length ≤ c := by
  obtain ⟨g, cap, h1, h2, h3⟩ := World.ownsRow.form h (List.length_pos_iff.2 hn)
  subst h1
  exact ⟨g, cap, rfl, own_at h⟩

/-- append of one run, out of a literal's block. -/
theorem append_d {w : World} {B : Nat} {v : Value} {xs : List Sd} {s : Sd} {ty : TypeId} (hB : B ≤ w.heap.size) (hown : OwnD w B v xs) (hl : xs.length ≤ 5000000000) :
    ∃ v' w', (Builtin.append_ #[53, 53] ty #[v, .slice (some ⟨w.heap.size, 0, none⟩) 1 1]).run Try.prog (w.alloc (.cells (sdc s) 72)) = .ok v' w' ∧ OwnD w' B v' (xs ++ [s]) ∧ Gr v v' w w' := by
  obtain ⟨i0, hi, hz0, hz1, hz2⟩ := info_parts infoD
  have hown1 := World.ownsRow.alloc hown (.cells (sdc s) 72)
  obtain ⟨g, c, w', h1, h2, h3, h4, h5⟩ := run_append_lies (P := Try.prog) (w := w.alloc (.cells (sdc s) 72)) 53 ty B 72 i0 _ 6 48 Try.underlying53 hi hz0 hz1 hz2 rfl (by decide) v xs.length (flatD xs) hown1
    ⟨w.heap.size, 0, none⟩ 1 1 (sdc s).toList rfl (fun j u hu => by
      have hV := (Var.new w (sdc s) 72 _ rfl).cell j
      rw [show (⟨w.heap.size, 0, none⟩ : Addr).add j = ⟨w.heap.size, j, none⟩ by unfold Addr.add; split <;> simp_all, hV]
      simpa using hu) (fun u hu => by
      simp only [List.mem_cons, List.not_mem_nil, or_false] at hu
      rcases hu with rfl | rfl | rfl | rfl | rfl | rfl <;> rfl) (by decide) (by unfold maxLen; omega) (by omega) (by simp; omega) _ rfl
  refine ⟨_, w', h1, ?_, ?_⟩
  · unfold OwnD
    rw [flatD_append, List.length_append]
    simpa [flatD] using h2
  · refine (Gr.of_below (v := v) ((Below.refl w.heap.size w).alloc (Nat.le_refl _) (.cells (sdc s) 72))).trans ⟨h3, fun k hk => ?_⟩
    rcases h4 with h4 | h4
    · refine .inl (h4.trans ?_)
      simpa [Value.ownBlock] using hk
    · refine .inr ?_
      have : g = k := by simpa [Value.ownBlock] using hk
      omega
end Go.Proofs.Ytjflgblplmgjlaa
