/- Rows of slopes and of steps that a call owns (made out of PtO by own.py). -/
import Derived.Test.YtijkoaggcmgjiaaSlp
import Derived.Test.YtijkoaggcmgjiaaOwn
import Derived.Lib.SliceRun
namespace Go.Proofs.Ytijkoaggcmgjiaa
open Go Go.RowKit
set_option linter.unusedVariables false

/-- The cells of one at an address. -/
structure SAt (W : World) (a : Addr) (s : Sl) : Prop where
  c0 : W.cell? a = some (.int .i64 s.t.x)
  c1 : W.cell? ⟨a.block, a.off + 1, none⟩ = some (.int .i64 s.t.y)
  c2 : W.cell? ⟨a.block, a.off + 2, none⟩ = some (.int .i64 s.b.x)
  c3 : W.cell? ⟨a.block, a.off + 3, none⟩ = some (.int .i64 s.b.y)
  c4 : W.cell? ⟨a.block, a.off + 4, none⟩ = some (.int .i64 s.d)
/-- A slice that holds them, nil and empty ones too. -/
def RowS (W : World) (A : Option Addr) (ss : List Sl) : Prop := ss ≠ [] → ∃ a, A = some a ∧ a.block < W.heap.size ∧ ∀ i s, ss[i]? = some s → SAt W (a.add (i * 5)) s
theorem sAt_of {w : World} {a : Addr} {s : Sl} (h : ∀ i, i < 5 → w.cell? (a.add i) = (slc s)[i]?) : SAt w a s :=
  ⟨by have := h 0 (by omega); exact this, h 1 (by omega), h 2 (by omega), h 3 (by omega), h 4 (by omega)⟩
theorem SAt.below {W W' : World} {B : Nat} {a : Addr} {s : Sl} (h : SAt W a s) (hb : Below B W W') (hl : a.block < B) : SAt W' a s := by
  have e : ∀ n, W'.cell? ⟨a.block, a.off + n, none⟩ = W.cell? ⟨a.block, a.off + n, none⟩ := fun n => hb.cell hl
  exact ⟨(hb.cell hl).trans h.c0, (e 1).trans h.c1, (e 2).trans h.c2, (e 3).trans h.c3, (e 4).trans h.c4⟩
theorem RowS.nil (W : World) (A : Option Addr) : RowS W A [] := fun h => absurd rfl h
theorem RowS.next {W W' : World} {A : Option Addr} {ss : List Sl} (h : RowS W A ss) (hb : Below W.heap.size W W') : RowS W' A ss := fun hn => by
  obtain ⟨a, rfl, hl, hr⟩ := h hn
  exact ⟨a, rfl, Nat.lt_of_lt_of_le hl hb.size, fun i s hi => (hr i s hi).below hb (by rw [add_block]; exact hl)⟩
theorem RowS.at_ {W : World} {A : Option Addr} {ss : List Sl} (h : RowS W A ss) {i : Nat} (hi : i < ss.length) : ∃ a, A = some a ∧ a.block < W.heap.size ∧ SAt W (a.add (i * 5)) ss[i] := by
  obtain ⟨a, rfl, hl, hr⟩ := h (by intro e; subst e; simp at hi)
  exact ⟨a, rfl, hl, hr i _ (List.getElem?_eq_getElem hi)⟩
/-- The cells of runs, one behind the other. -/
def flatS (ss : List Sl) : List Value := ss.flatMap fun s => (slc s).toList
theorem flatS_cons (s : Sl) (r : List Sl) : flatS (s :: r) = (slc s).toList ++ flatS r := rfl
theorem flatS_append (a b : List Sl) : flatS (a ++ b) = flatS a ++ flatS b := by simp [flatS]
theorem flatS_length : ∀ ss : List Sl, (flatS ss).length = ss.length * 5
  | [] => rfl
  | s :: r => by rw [flatS_cons, List.length_append, flatS_length r]; simp; omega
theorem flatS_get : ∀ (ss : List Sl) (i j : Nat) (s : Sl), ss[i]? = some s → j < 5 → (flatS ss)[i * 5 + j]? = (slc s)[j]?
  | [], i, j, s, h, _ => by simp at h
  | g :: r, 0, j, s, h, hj => by
    obtain rfl : g = s := by simpa using h
    rw [flatS_cons, List.getElem?_append_left (by simpa using by omega)]
    simp
  | g :: r, i + 1, j, s, h, hj => by
    have h' : r[i]? = some s := by simpa using h
    rw [flatS_cons, List.getElem?_append_right (by simp; omega)]
    rw [show (i + 1) * 5 + j - (slc g).toList.length = i * 5 + j by simp; omega]
    exact flatS_get r i j s h' hj

/-- A block whose first cells are those of the runs. -/
theorem ss_block {w : World} {g : Nat} {ss : List Sl} (hg : g < w.heap.size) (h : ∀ j u, (flatS ss)[j]? = some u → w.cell? ⟨g, j, none⟩ = some u) : RowS w (some ⟨g, 0, none⟩) ss := fun _ => ⟨_, rfl, hg, fun i s hs => sAt_of fun j hj => by
  have e : (⟨g, 0, none⟩ : Addr).add (i * 5) = ⟨g, i * 5, none⟩ := by unfold Addr.add; split <;> simp_all
  have e' : (⟨g, i * 5, none⟩ : Addr).add j = ⟨g, i * 5 + j, none⟩ := by unfold Addr.add; split <;> simp_all
  have h1 := flatS_get ss i j s hs hj
  have h2 : (slc s)[j]? = some ((slc s)[j]'(by simpa using hj)) := Array.getElem?_eq_getElem _
  rw [e, e', h2]
  exact h _ _ (h1.trans h2)⟩
theorem Var.ss {w : World} {g : Nat} {ss : List Sl} {t : TypeId} (h : Var w g (flatS ss).toArray t) : RowS w (some ⟨g, 0, none⟩) ss := ss_block h.lt fun j u hu => by
  rw [h.cell]
  simpa using hu
theorem own_ss {w : World} {B n : Nat} {v : Value} {ss : List Sl} (h : w.ownsRow B 77 5 v n (flatS ss)) : ∃ A c, v = .slice A n c ∧ n = ss.length ∧ RowS w A ss := by
  have hl : n = ss.length := by have := h.1; rw [flatS_length] at this; omega
  rcases h.2 with ⟨rfl, h0⟩ | ⟨g, cap, cur, rfl, hB, hg, hnc, hcm, hcs, htake⟩
  · subst h0
    have : ss = [] := List.eq_nil_of_length_eq_zero hl.symm
    subst this
    exact ⟨none, 0, rfl, rfl, RowS.nil _ _⟩
  · refine ⟨some ⟨g, 0, none⟩, cap, rfl, hl, ss_block (Array.getElem?_eq_some_iff.1 hg).1 fun j u hu => ?_⟩
    have := h.cells (g := g) rfl j u hu
    rwa [show (⟨g, 0, none⟩ : Addr).add j = ⟨g, j, none⟩ by unfold Addr.add; split <;> simp_all] at this

theorem infoS : (Try.prog.info? 77).map (fun i => (i.zero, i.size, i.bytes)) = some (some (slv ⟨⟨0, 0⟩, ⟨0, 0⟩, 0⟩), 5, 40) := by kernel_rfl

theorem flatS_int (ys : List Sl) : ∀ u ∈ flatS ys, u.oneCell' = true := by
  intro u hu
  unfold flatS at hu
  obtain ⟨s, -, h⟩ := List.mem_flatMap.1 hu
  simp only [List.mem_cons, List.not_mem_nil, or_false] at h
  rcases h with rfl | rfl | rfl | rfl | rfl <;> rfl

/-- The slice v holds these runs in a block of its own, above B (or is nil). -/
def OwnS (w : World) (B : Nat) (v : Value) (xs : List Sl) : Prop := w.ownsRow B 77 5 v xs.length (flatS xs)
theorem OwnS.nil (w : World) (B : Nat) : OwnS w B (.slice none 0 0) [] := World.ownsRow_nil w B _ 5
theorem OwnS.next {w w' : World} {B : Nat} {v : Value} {xs : List Sl} (h : OwnS w B v xs) (hb : Below w.heap.size w w') : OwnS w' B v xs := own_next h hb
theorem OwnS.drew {w : World} {B : Nat} {v : Value} {xs : List Sl} (h : OwnS w B v xs) : OwnS w.drew B v xs := h
theorem OwnS.mono {w : World} {B B' : Nat} {v : Value} {xs : List Sl} (h : OwnS w B v xs) (hb : B' ≤ B) : OwnS w B' v xs := by
  refine ⟨h.1, ?_⟩
  rcases h.2 with h1 | ⟨g, cap, cur, hv, hB, hh, hr⟩
  · exact .inl h1
  · exact .inr ⟨g, cap, cur, hv, Nat.le_trans hb hB, hh, hr⟩
theorem OwnS.keep {w w' : World} {B : Nat} {v : Value} {xs : List Sl} (h : OwnS w B v xs) (hk : ∀ k, v.ownBlock = some k → w'.heap[k]? = w.heap[k]?) : OwnS w' B v xs := by
  refine ⟨h.1, ?_⟩
  rcases h.2 with h1 | ⟨g, cap, cur, hv, hB, hh, hr⟩
  · exact .inl h1
  · exact .inr ⟨g, cap, cur, hv, hB, (hk g (by rw [hv]; rfl)).trans hh, hr⟩

theorem OwnS.is {w : World} {B : Nat} {v : Value} {xs : List Sl} (h : OwnS w B v xs) : ∃ A c, v = .slice A xs.length c ∧ RowS w A xs := by
  obtain ⟨A, c, h1, -, h3⟩ := own_ss h
  exact ⟨A, c, h1, h3⟩
theorem OwnS.ge {w : World} {B : Nat} {v : Value} {xs : List Sl} (h : OwnS w B v xs) : ∀ k, v.ownBlock = some k → B ≤ k ∧ k < w.heap.size := World.ownsRow.lt h
theorem OwnS.one {w : World} {B : Nat} {v : Value} {xs : List Sl} (h : OwnS w B v xs) (hn : xs ≠ []) : ∃ g c, v = .slice (some ⟨g, 0, none⟩) xs.length c ∧ B ≤ g ∧ g < w.heap.size ∧ xs.length ≤ c := by
  obtain ⟨g, cap, h1, h2, h3⟩ := World.ownsRow.form h (List.length_pos_iff.2 hn)
  subst h1
  exact ⟨g, cap, rfl, own_at h⟩

/-- append of one run, out of a literal's block. -/
theorem append_s {w : World} {B : Nat} {v : Value} {xs : List Sl} {s : Sl} {ty : TypeId} (hB : B ≤ w.heap.size) (hown : OwnS w B v xs) (hl : xs.length ≤ 5000000000) :
    ∃ v' w', (Builtin.append_ #[72, 72] ty #[v, .slice (some ⟨w.heap.size, 0, none⟩) 1 1]).run Try.prog (w.alloc (.cells (slc s) 77)) = .ok v' w' ∧ OwnS w' B v' (xs ++ [s]) ∧ Gr v v' w w' := by
  obtain ⟨i0, hi, hz0, hz1, hz2⟩ := info_parts infoS
  have hown1 := World.ownsRow.alloc hown (.cells (slc s) 77)
  obtain ⟨g, c, w', h1, h2, h3, h4, h5⟩ := run_append_lies (P := Try.prog) (w := w.alloc (.cells (slc s) 77)) 72 ty B 77 i0 _ 5 40 Try.underlying72 hi hz0 hz1 hz2 rfl (by decide) v xs.length (flatS xs) hown1
    ⟨w.heap.size, 0, none⟩ 1 1 (slc s).toList rfl (fun j u hu => by
      have hV := (Var.new w (slc s) 77 _ rfl).cell j
      rw [show (⟨w.heap.size, 0, none⟩ : Addr).add j = ⟨w.heap.size, j, none⟩ by unfold Addr.add; split <;> simp_all, hV]
      simpa using hu) (fun u hu => by
      simp only [List.mem_cons, List.not_mem_nil, or_false] at hu
      rcases hu with rfl | rfl | rfl | rfl | rfl <;> rfl) (by decide) (by unfold maxLen; omega) (by omega) (by simp; omega) _ rfl
  refine ⟨_, w', h1, ?_, ?_⟩
  · unfold OwnS
    rw [flatS_append, List.length_append]
    simpa [flatS] using h2
  · refine (Gr.of_below (v := v) ((Below.refl w.heap.size w).alloc (Nat.le_refl _) (.cells (slc s) 77))).trans ⟨h3, fun k hk => ?_⟩
    rcases h4 with h4 | h4
    · refine .inl (h4.trans ?_)
      simpa [Value.ownBlock] using hk
    · refine .inr ?_
      have : g = k := by simpa [Value.ownBlock] using hk
      omega


/-- A change of the winding number. -/
structure Stp where
  x : Int
  d : Int
instance : Inhabited Stp := ⟨⟨0, 0⟩⟩
abbrev tcel (s : Stp) : Array Value := #[.int .i64 s.x, .int .i64 s.d]
abbrev tpv (s : Stp) : Value := .agg (tcel s)
/-- The cells of one at an address. -/
structure TAt (W : World) (a : Addr) (s : Stp) : Prop where
  c0 : W.cell? a = some (.int .i64 s.x)
  c1 : W.cell? ⟨a.block, a.off + 1, none⟩ = some (.int .i64 s.d)
/-- A slice that holds them, nil and empty ones too. -/
def RowT (W : World) (A : Option Addr) (ss : List Stp) : Prop := ss ≠ [] → ∃ a, A = some a ∧ a.block < W.heap.size ∧ ∀ i s, ss[i]? = some s → TAt W (a.add (i * 2)) s
theorem tAt_of {w : World} {a : Addr} {s : Stp} (h : ∀ i, i < 2 → w.cell? (a.add i) = (tcel s)[i]?) : TAt w a s :=
  ⟨by have := h 0 (by omega); exact this, h 1 (by omega)⟩
theorem TAt.below {W W' : World} {B : Nat} {a : Addr} {s : Stp} (h : TAt W a s) (hb : Below B W W') (hl : a.block < B) : TAt W' a s := by
  have e : ∀ n, W'.cell? ⟨a.block, a.off + n, none⟩ = W.cell? ⟨a.block, a.off + n, none⟩ := fun n => hb.cell hl
  exact ⟨(hb.cell hl).trans h.c0, (e 1).trans h.c1⟩
theorem RowT.nil (W : World) (A : Option Addr) : RowT W A [] := fun h => absurd rfl h
theorem RowT.next {W W' : World} {A : Option Addr} {ss : List Stp} (h : RowT W A ss) (hb : Below W.heap.size W W') : RowT W' A ss := fun hn => by
  obtain ⟨a, rfl, hl, hr⟩ := h hn
  exact ⟨a, rfl, Nat.lt_of_lt_of_le hl hb.size, fun i s hi => (hr i s hi).below hb (by rw [add_block]; exact hl)⟩
theorem RowT.at_ {W : World} {A : Option Addr} {ss : List Stp} (h : RowT W A ss) {i : Nat} (hi : i < ss.length) : ∃ a, A = some a ∧ a.block < W.heap.size ∧ TAt W (a.add (i * 2)) ss[i] := by
  obtain ⟨a, rfl, hl, hr⟩ := h (by intro e; subst e; simp at hi)
  exact ⟨a, rfl, hl, hr i _ (List.getElem?_eq_getElem hi)⟩
/-- The cells of runs, one behind the other. -/
def flatT (ss : List Stp) : List Value := ss.flatMap fun s => (tcel s).toList
theorem flatT_cons (s : Stp) (r : List Stp) : flatT (s :: r) = (tcel s).toList ++ flatT r := rfl
theorem flatT_append (a b : List Stp) : flatT (a ++ b) = flatT a ++ flatT b := by simp [flatT]
theorem flatT_length : ∀ ss : List Stp, (flatT ss).length = ss.length * 2
  | [] => rfl
  | s :: r => by rw [flatT_cons, List.length_append, flatT_length r]; simp; omega
theorem flatT_get : ∀ (ss : List Stp) (i j : Nat) (s : Stp), ss[i]? = some s → j < 2 → (flatT ss)[i * 2 + j]? = (tcel s)[j]?
  | [], i, j, s, h, _ => by simp at h
  | g :: r, 0, j, s, h, hj => by
    obtain rfl : g = s := by simpa using h
    rw [flatT_cons, List.getElem?_append_left (by simpa using by omega)]
    simp
  | g :: r, i + 1, j, s, h, hj => by
    have h' : r[i]? = some s := by simpa using h
    rw [flatT_cons, List.getElem?_append_right (by simp; omega)]
    rw [show (i + 1) * 2 + j - (tcel g).toList.length = i * 2 + j by simp; omega]
    exact flatT_get r i j s h' hj

/-- A block whose first cells are those of the runs. -/
theorem ts_block {w : World} {g : Nat} {ss : List Stp} (hg : g < w.heap.size) (h : ∀ j u, (flatT ss)[j]? = some u → w.cell? ⟨g, j, none⟩ = some u) : RowT w (some ⟨g, 0, none⟩) ss := fun _ => ⟨_, rfl, hg, fun i s hs => tAt_of fun j hj => by
  have e : (⟨g, 0, none⟩ : Addr).add (i * 2) = ⟨g, i * 2, none⟩ := by unfold Addr.add; split <;> simp_all
  have e' : (⟨g, i * 2, none⟩ : Addr).add j = ⟨g, i * 2 + j, none⟩ := by unfold Addr.add; split <;> simp_all
  have h1 := flatT_get ss i j s hs hj
  have h2 : (tcel s)[j]? = some ((tcel s)[j]'(by simpa using hj)) := Array.getElem?_eq_getElem _
  rw [e, e', h2]
  exact h _ _ (h1.trans h2)⟩
theorem Var.ts {w : World} {g : Nat} {ss : List Stp} {t : TypeId} (h : Var w g (flatT ss).toArray t) : RowT w (some ⟨g, 0, none⟩) ss := ts_block h.lt fun j u hu => by
  rw [h.cell]
  simpa using hu
theorem own_ts {w : World} {B n : Nat} {v : Value} {ss : List Stp} (h : w.ownsRow B 124 2 v n (flatT ss)) : ∃ A c, v = .slice A n c ∧ n = ss.length ∧ RowT w A ss := by
  have hl : n = ss.length := by have := h.1; rw [flatT_length] at this; omega
  rcases h.2 with ⟨rfl, h0⟩ | ⟨g, cap, cur, rfl, hB, hg, hnc, hcm, hcs, htake⟩
  · subst h0
    have : ss = [] := List.eq_nil_of_length_eq_zero hl.symm
    subst this
    exact ⟨none, 0, rfl, rfl, RowT.nil _ _⟩
  · refine ⟨some ⟨g, 0, none⟩, cap, rfl, hl, ts_block (Array.getElem?_eq_some_iff.1 hg).1 fun j u hu => ?_⟩
    have := h.cells (g := g) rfl j u hu
    rwa [show (⟨g, 0, none⟩ : Addr).add j = ⟨g, j, none⟩ by unfold Addr.add; split <;> simp_all] at this

theorem infoT : (Try.prog.info? 124).map (fun i => (i.zero, i.size, i.bytes)) = some (some (tpv ⟨0, 0⟩), 2, 16) := by kernel_rfl

theorem flatT_int (ys : List Stp) : ∀ u ∈ flatT ys, u.oneCell' = true := by
  intro u hu
  unfold flatT at hu
  obtain ⟨s, -, h⟩ := List.mem_flatMap.1 hu
  simp only [List.mem_cons, List.not_mem_nil, or_false] at h
  rcases h with rfl | rfl <;> rfl

/-- The slice v holds these runs in a block of its own, above B (or is nil). -/
def OwnT (w : World) (B : Nat) (v : Value) (xs : List Stp) : Prop := w.ownsRow B 124 2 v xs.length (flatT xs)
theorem OwnT.nil (w : World) (B : Nat) : OwnT w B (.slice none 0 0) [] := World.ownsRow_nil w B _ 2
theorem OwnT.next {w w' : World} {B : Nat} {v : Value} {xs : List Stp} (h : OwnT w B v xs) (hb : Below w.heap.size w w') : OwnT w' B v xs := own_next h hb
theorem OwnT.drew {w : World} {B : Nat} {v : Value} {xs : List Stp} (h : OwnT w B v xs) : OwnT w.drew B v xs := h
theorem OwnT.mono {w : World} {B B' : Nat} {v : Value} {xs : List Stp} (h : OwnT w B v xs) (hb : B' ≤ B) : OwnT w B' v xs := by
  refine ⟨h.1, ?_⟩
  rcases h.2 with h1 | ⟨g, cap, cur, hv, hB, hh, hr⟩
  · exact .inl h1
  · exact .inr ⟨g, cap, cur, hv, Nat.le_trans hb hB, hh, hr⟩
theorem OwnT.keep {w w' : World} {B : Nat} {v : Value} {xs : List Stp} (h : OwnT w B v xs) (hk : ∀ k, v.ownBlock = some k → w'.heap[k]? = w.heap[k]?) : OwnT w' B v xs := by
  refine ⟨h.1, ?_⟩
  rcases h.2 with h1 | ⟨g, cap, cur, hv, hB, hh, hr⟩
  · exact .inl h1
  · exact .inr ⟨g, cap, cur, hv, hB, (hk g (by rw [hv]; rfl)).trans hh, hr⟩

theorem OwnT.is {w : World} {B : Nat} {v : Value} {xs : List Stp} (h : OwnT w B v xs) : ∃ A c, v = .slice A xs.length c ∧ RowT w A xs := by
  obtain ⟨A, c, h1, -, h3⟩ := own_ts h
  exact ⟨A, c, h1, h3⟩
theorem OwnT.ge {w : World} {B : Nat} {v : Value} {xs : List Stp} (h : OwnT w B v xs) : ∀ k, v.ownBlock = some k → B ≤ k ∧ k < w.heap.size := World.ownsRow.lt h
theorem OwnT.one {w : World} {B : Nat} {v : Value} {xs : List Stp} (h : OwnT w B v xs) (hn : xs ≠ []) : ∃ g c, v = .slice (some ⟨g, 0, none⟩) xs.length c ∧ B ≤ g ∧ g < w.heap.size ∧ xs.length ≤ c := by
  obtain ⟨g, cap, h1, h2, h3⟩ := World.ownsRow.form h (List.length_pos_iff.2 hn)
  subst h1
  exact ⟨g, cap, rfl, own_at h⟩

/-- append of one run, out of a literal's block. -/
theorem append_t {w : World} {B : Nat} {v : Value} {xs : List Stp} {s : Stp} {ty : TypeId} (hB : B ≤ w.heap.size) (hown : OwnT w B v xs) (hl : xs.length ≤ 5000000000) :
    ∃ v' w', (Builtin.append_ #[74, 74] ty #[v, .slice (some ⟨w.heap.size, 0, none⟩) 1 1]).run Try.prog (w.alloc (.cells (tcel s) 124)) = .ok v' w' ∧ OwnT w' B v' (xs ++ [s]) ∧ Gr v v' w w' := by
  obtain ⟨i0, hi, hz0, hz1, hz2⟩ := info_parts infoT
  have hown1 := World.ownsRow.alloc hown (.cells (tcel s) 124)
  obtain ⟨g, c, w', h1, h2, h3, h4, h5⟩ := run_append_lies (P := Try.prog) (w := w.alloc (.cells (tcel s) 124)) 74 ty B 124 i0 _ 2 16 Try.underlying74 hi hz0 hz1 hz2 rfl (by decide) v xs.length (flatT xs) hown1
    ⟨w.heap.size, 0, none⟩ 1 1 (tcel s).toList rfl (fun j u hu => by
      have hV := (Var.new w (tcel s) 124 _ rfl).cell j
      rw [show (⟨w.heap.size, 0, none⟩ : Addr).add j = ⟨w.heap.size, j, none⟩ by unfold Addr.add; split <;> simp_all, hV]
      simpa using hu) (fun u hu => by
      simp only [List.mem_cons, List.not_mem_nil, or_false] at hu
      rcases hu with rfl | rfl <;> rfl) (by decide) (by unfold maxLen; omega) (by omega) (by simp; omega) _ rfl
  refine ⟨_, w', h1, ?_, ?_⟩
  · unfold OwnT
    rw [flatT_append, List.length_append]
    simpa [flatT] using h2
  · refine (Gr.of_below (v := v) ((Below.refl w.heap.size w).alloc (Nat.le_refl _) (.cells (tcel s) 124))).trans ⟨h3, fun k hk => ?_⟩
    rcases h4 with h4 | h4
    · refine .inl (h4.trans ?_)
      simpa [Value.ownBlock] using hk
    · refine .inr ?_
      have : g = k := by simpa [Value.ownBlock] using hk
      omega


end Go.Proofs.Ytijkoaggcmgjiaa
