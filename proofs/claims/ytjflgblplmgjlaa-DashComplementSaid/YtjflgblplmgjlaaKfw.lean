/- keep1's few: at most 4 lines of 8 points, cut to a range. -/
import Derived.Test.YtjflgblplmgjlaaFew
import Derived.Lib.SliceRun
namespace Go.Proofs.Ytjflgblplmgjlaa
open Go Go.RowKit
attribute [local go_sem] Oper.semAt_some
set_option linter.unusedVariables false
set_option linter.unusedSimpArgs false


/-- The cells of runs, one behind the other. -/
def flatP (ss : List P2) : List Value := ss.flatMap fun s => (pcel s).toList
theorem flatP_cons (s : P2) (r : List P2) : flatP (s :: r) = (pcel s).toList ++ flatP r := rfl
theorem flatP_append (a b : List P2) : flatP (a ++ b) = flatP a ++ flatP b := by simp [flatP]
theorem flatP_length : ∀ ss : List P2, (flatP ss).length = ss.length * 2
  | [] => rfl
  | s :: r => by rw [flatP_cons, List.length_append, flatP_length r]; simp; omega
theorem flatP_get : ∀ (ss : List P2) (i j : Nat) (s : P2), ss[i]? = some s → j < 2 → (flatP ss)[i * 2 + j]? = (pcel s)[j]?
  | [], i, j, s, h, _ => by simp at h
  | g :: r, 0, j, s, h, hj => by
    obtain rfl : g = s := by simpa using h
    rw [flatP_cons, List.getElem?_append_left (by simpa using by omega)]
    simp
  | g :: r, i + 1, j, s, h, hj => by
    have h' : r[i]? = some s := by simpa using h
    rw [flatP_cons, List.getElem?_append_right (by simp; omega)]
    rw [show (i + 1) * 2 + j - (pcel g).toList.length = i * 2 + j by simp; omega]
    exact flatP_get r i j s h' hj

/-- A block whose first cells are those of the runs. -/
theorem pts_block {w : World} {g : Nat} {ss : List P2} (hg : g < w.heap.size) (h : ∀ j u, (flatP ss)[j]? = some u → w.cell? ⟨g, j, none⟩ = some u) : Pts w (some ⟨g, 0, none⟩) ss := fun _ => ⟨_, rfl, hg, fun i s hs => ptAt_of fun j hj => by
  have e : (⟨g, 0, none⟩ : Addr).add (i * 2) = ⟨g, i * 2, none⟩ := by unfold Addr.add; split <;> simp_all
  have e' : (⟨g, i * 2, none⟩ : Addr).add j = ⟨g, i * 2 + j, none⟩ := by unfold Addr.add; split <;> simp_all
  have h1 := flatP_get ss i j s hs hj
  have h2 : (pcel s)[j]? = some ((pcel s)[j]'(by simpa using hj)) := Array.getElem?_eq_getElem _
  rw [e, e', h2]
  exact h _ _ (h1.trans h2)⟩
theorem Var.pts {w : World} {g : Nat} {ss : List P2} {t : TypeId} (h : Var w g (flatP ss).toArray t) : Pts w (some ⟨g, 0, none⟩) ss := pts_block h.lt fun j u hu => by
  rw [h.cell]
  simpa using hu
theorem own_pts {w : World} {B n : Nat} {v : Value} {ss : List P2} (h : w.ownsRow B 37 2 v n (flatP ss)) : ∃ A c, v = .slice A n c ∧ n = ss.length ∧ Pts w A ss := by
  have hl : n = ss.length := by have := h.1; rw [flatP_length] at this; omega
  rcases h.2 with ⟨rfl, h0⟩ | ⟨g, cap, cur, rfl, hB, hg, hnc, hcm, hcs, htake⟩
  · subst h0
    have : ss = [] := List.eq_nil_of_length_eq_zero hl.symm
    subst this
    exact ⟨none, 0, rfl, rfl, Pts.nil _ _⟩
  · refine ⟨some ⟨g, 0, none⟩, cap, rfl, hl, pts_block (Array.getElem?_eq_some_iff.1 hg).1 fun j u hu => ?_⟩
    have := h.cells (g := g) rfl j u hu
    rwa [show (⟨g, 0, none⟩ : Addr).add j = ⟨g, j, none⟩ by unfold Addr.add; split <;> simp_all] at this

theorem infoPt : (Try.prog.info? 37).map (fun i => (i.zero, i.size, i.bytes)) = some (some (ptv ⟨0, 0⟩), 2, 16) := by kernel_rfl

theorem flatP_int (ys : List P2) : ∀ u ∈ flatP ys, u.oneCell' = true := by
  intro u hu
  unfold flatP at hu
  obtain ⟨s, -, h⟩ := List.mem_flatMap.1 hu
  simp only [List.mem_cons, List.not_mem_nil, or_false] at h
  rcases h with rfl | rfl <;> rfl

/-- The slice v holds these runs in a block of its own, above B (or is nil). -/
def OwnP (w : World) (B : Nat) (v : Value) (xs : List P2) : Prop := w.ownsRow B 37 2 v xs.length (flatP xs)
theorem OwnP.nil (w : World) (B : Nat) : OwnP w B (.slice none 0 0) [] := World.ownsRow_nil w B _ 2
theorem OwnP.next {w w' : World} {B : Nat} {v : Value} {xs : List P2} (h : OwnP w B v xs) (hb : Below w.heap.size w w') : OwnP w' B v xs := own_next h hb
theorem OwnP.drew {w : World} {B : Nat} {v : Value} {xs : List P2} (h : OwnP w B v xs) : OwnP w.drew B v xs := h
theorem OwnP.mono {w : World} {B B' : Nat} {v : Value} {xs : List P2} (h : OwnP w B v xs) (hb : B' ≤ B) : OwnP w B' v xs := by
  refine ⟨h.1, ?_⟩
  rcases h.2 with h1 | ⟨g, cap, cur, hv, hB, hh, hr⟩
  · exact .inl h1
  · exact .inr ⟨g, cap, cur, hv, Nat.le_trans hb hB, hh, hr⟩
theorem OwnP.keep {w w' : World} {B : Nat} {v : Value} {xs : List P2} (h : OwnP w B v xs) (hk : ∀ k, v.ownBlock = some k → w'.heap[k]? = w.heap[k]?) : OwnP w' B v xs := by
  refine ⟨h.1, ?_⟩
  rcases h.2 with h1 | ⟨g, cap, cur, hv, hB, hh, hr⟩
  · exact .inl h1
  · exact .inr ⟨g, cap, cur, hv, hB, (hk g (by rw [hv]; rfl)).trans hh, hr⟩

theorem OwnP.is {w : World} {B : Nat} {v : Value} {xs : List P2} (h : OwnP w B v xs) : ∃ A c, v = .slice A xs.length c ∧ Pts w A xs := by
  obtain ⟨A, c, h1, -, h3⟩ := own_pts h
  exact ⟨A, c, h1, h3⟩
theorem OwnP.ge {w : World} {B : Nat} {v : Value} {xs : List P2} (h : OwnP w B v xs) : ∀ k, v.ownBlock = some k → B ≤ k ∧ k < w.heap.size := World.ownsRow.lt h
theorem OwnP.one {w : World} {B : Nat} {v : Value} {xs : List P2} (h : OwnP w B v xs) (hn : xs ≠ []) : ∃ g c, v = .slice (some ⟨g, 0, none⟩) xs.length c ∧ B ≤ g ∧ g < w.heap.size ∧ xs.length ≤ c := by
  obtain ⟨g, cap, h1, h2, h3⟩ := World.ownsRow.form h (List.length_pos_iff.2 hn)
  subst h1
  exact ⟨g, cap, rfl, own_at h⟩

/-- append of one run, out of a literal's block. -/
theorem append_pt {w : World} {B : Nat} {v : Value} {xs : List P2} {s : P2} {ty : TypeId} (hB : B ≤ w.heap.size) (hown : OwnP w B v xs) (hl : xs.length ≤ 5000000000) :
    ∃ v' w', (Builtin.append_ #[25, 25] ty #[v, .slice (some ⟨w.heap.size, 0, none⟩) 1 1]).run Try.prog (w.alloc (.cells (pcel s) 37)) = .ok v' w' ∧ OwnP w' B v' (xs ++ [s]) ∧ Gr v v' w w' := by
  obtain ⟨i0, hi, hz0, hz1, hz2⟩ := info_parts infoPt
  have hown1 := World.ownsRow.alloc hown (.cells (pcel s) 37)
  obtain ⟨g, c, w', h1, h2, h3, h4, h5⟩ := run_append_lies (P := Try.prog) (w := w.alloc (.cells (pcel s) 37)) 25 ty B 37 i0 _ 2 16 Try.underlying25 hi hz0 hz1 hz2 rfl (by decide) v xs.length (flatP xs) hown1
    ⟨w.heap.size, 0, none⟩ 1 1 (pcel s).toList rfl (fun j u hu => by
      have hV := (Var.new w (pcel s) 37 _ rfl).cell j
      rw [show (⟨w.heap.size, 0, none⟩ : Addr).add j = ⟨w.heap.size, j, none⟩ by unfold Addr.add; split <;> simp_all, hV]
      simpa using hu) (fun u hu => by
      simp only [List.mem_cons, List.not_mem_nil, or_false] at hu
      rcases hu with rfl | rfl <;> rfl) (by decide) (by unfold maxLen; omega) (by omega) (by simp; omega) _ rfl
  refine ⟨_, w', h1, ?_, ?_⟩
  · unfold OwnP
    rw [flatP_append, List.length_append]
    simpa [flatP] using h2
  · refine (Gr.of_below (v := v) ((Below.refl w.heap.size w).alloc (Nat.le_refl _) (.cells (pcel s) 37))).trans ⟨h3, fun k hk => ?_⟩
    rcases h4 with h4 | h4
    · refine .inl (h4.trans ?_)
      simpa [Value.ownBlock] using hk
    · refine .inr ?_
      have : g = k := by simpa [Value.ownBlock] using hk
      omega


theorem run_litP0 {ρ : Operand → Value} {dst : Option Tmp} {ty : TypeId} {pos : String} {af : Array Edge} {w : World} {gd : Option (Nat × Bool)} :
    (execOp ρ { dst := dst, op := .buildSlice 25 0 #[], type := ty, pos := pos, after := af, guard := gd }).run Try.prog w = .ok (.value (.slice (some ⟨w.heap.size, 0, none⟩) 0 0)) (w.alloc (.cells #[] 37)) := by
  go_simp

/-! ### cut -/
def cutV (m x : Int) : Int := -m + x.tmod (m - -m + 1) % (m - -m + 1)
theorem cutV_in {m : Int} (hm : 0 ≤ m) (x : Int) : -m ≤ cutV m x ∧ cutV m x ≤ m := by
  unfold cutV
  have t3 := Int.emod_nonneg (x.tmod (m - -m + 1)) (show m - -m + 1 ≠ 0 by omega)
  have t4 := Int.emod_lt_of_pos (x.tmod (m - -m + 1)) (show 0 < m - -m + 1 by omega)
  omega
def cutP (m : Int) (p : P2) : P2 := ⟨cutV m p.x, cutV m p.y⟩
theorem kcut_val (x lo hi : Int) (w : World) (h : lo ≤ hi) (hn : hi - lo < 4611686018427387904) (hl : -4611686018427387904 ≤ lo) (hh : hi ≤ 4611686018427387904) :
    Calls Try.prog 10 #[.int .i64 x, .int .i64 lo, .int .i64 hi] w fun e w' => e = .returned (.int .i64 (lo + x.tmod (hi - lo + 1) % (hi - lo + 1))) ∧ w = w' := by
  have t1 := Int.lt_tmod_of_pos x (show 0 < hi - lo + 1 by omega)
  have t2 := Int.tmod_lt_of_pos x (show 0 < hi - lo + 1 by omega)
  have t3 := Int.emod_nonneg (x.tmod (hi - lo + 1)) (show hi - lo + 1 ≠ 0 by omega)
  have t4 := Int.emod_lt_of_pos (x.tmod (hi - lo + 1)) (show 0 < hi - lo + 1 by omega)
  go_enter Try.func10, Try.ntmps10
  go_wp2
  go_ret
  exact ⟨rfl, rfl⟩
theorem kcut_any (x m : Int) (w : World) (hm : 0 ≤ m ∧ m ≤ 1000000000) :
    Calls Try.prog 10 #[.int .i64 x, .int .i64 (-m), .int .i64 m] w fun e w' => e = .returned (.int .i64 (cutV m x)) ∧ w = w' :=
  kcut_val x (-m) m w (by omega) (by omega) (by omega) (by omega)
theorem enters_kcut : Enters Try.prog 10 := enters_of Try.func10 (by kernel_rfl) rfl

/-! ### lines with rows of points of their own -/
abbrev lev (e : LE) : Value := .slice e.A e.ps.length e.c
/-- A finished line. -/
structure FinE (w : World) (v : Value) (e : LE) : Prop where
  p : Pts w e.A e.ps
  le : e.ps.length ≤ e.c ∧ e.c ≤ maxLen
  lt : ∀ q, (lev e).ownBlock = some q → q < w.heap.size
  ap : apart v (lev e)
theorem pts_gr {W w : World} {v v' : Value} {A : Option Addr} {n c : Nat} {xs : List P2} (h : Pts W A xs) (hg : Gr v v' W w) (hne : apart v (.slice A n c)) : Pts w A xs := fun hn => by
  obtain ⟨a, rfl, hl, hr⟩ := h hn
  have hne2 : v.ownBlock ≠ some a.block := fun e => hne _ e rfl
  have hk : ∀ p : Addr, p.block = a.block → w.cell? p = W.cell? p := fun p hp => World.cell?_of_block (by rw [hp]; exact hg.block hl hne2)
  refine ⟨a, rfl, Nat.lt_of_lt_of_le hl hg.size, fun i s hi => ?_⟩
  have := hr i s hi
  exact ⟨(hk _ (add_block _ _)).trans this.c0, (hk ⟨(a.add (i * 2)).block, (a.add (i * 2)).off + 1, none⟩ (add_block a (i * 2))).trans this.c1⟩
theorem FinE.gr {W w : World} {v u u' : Value} {e : LE} (h : FinE W v e) (hg : Gr u u' W w) (ha : apart u (lev e)) : FinE w v e :=
  ⟨pts_gr h.p hg ha, h.le, fun q hq => Nat.lt_of_lt_of_le (h.lt q hq) hg.size, h.ap⟩
theorem FinE.next {W w : World} {v : Value} {e : LE} (h : FinE W v e) (hb : Below W.heap.size W w) : FinE w v e :=
  ⟨h.p.next hb, h.le, fun q hq => Nat.lt_of_lt_of_le (h.lt q hq) hb.size, h.ap⟩
/-- What few holds between two lines. -/
structure KO (B : Nat) (w0 w : World) (v : Value) (es : List LE) : Prop where
  be : Below B w0 w
  r : w.ownsRow B 27 2 v es.length (lflE es)
  p : ∀ e ∈ es, FinE w v e
theorem KO.ge {B : Nat} {w0 w : World} {v : Value} {es : List LE} (h : KO B w0 w v es) : ∀ q, v.ownBlock = some q → B ≤ q ∧ q < w.heap.size := World.ownsRow.lt h.r
theorem KO.next {B : Nat} {w0 w w' : World} {v : Value} {es : List LE} (h : KO B w0 w v es) (hB : B ≤ w.heap.size) (hb : Below w.heap.size w w') : KO B w0 w' v es :=
  ⟨h.be.trans (hb.mono hB), own_next h.r hb, fun e he => (h.p e he).next hb⟩
/-- What few holds within a line. -/
structure KF (B : Nat) (w0 w : World) (v : Value) (es : List LE) (b : Nat) (vp : Value) (ps : List P2) (cl : Bool) : Prop where
  o : KO B w0 w v es
  bB : B ≤ b
  x : Var w b #[vp, .bool cl] 27
  po : OwnP w B vp ps
  PV : apart vp v
  PE : ∀ e ∈ es, apart vp (lev e)
  BV : apart (yb b) v
  BP : apart (yb b) vp
  BE : ∀ e ∈ es, apart (yb b) (lev e)
theorem KO.line {B : Nat} {w0 w : World} {v : Value} {es : List LE} (h : KO B w0 w v es) (hB : B ≤ w.heap.size) (cl : Bool) : KF B w0 (w.alloc (.cells #[.slice none 0 0, .bool cl] 27)) v es w.heap.size (.slice none 0 0) [] cl := by
  have hb := (Below.refl w.heap.size w).alloc (Nat.le_refl _) (.cells #[.slice none 0 0, .bool cl] 27)
  have far : ∀ u : Value, (∀ q, u.ownBlock = some q → q < w.heap.size) → apart (yb w.heap.size) u := fun u hu q h1 h2 => by
    have := hu q h2
    have := (yb_own _ _).1 h1
    omega
  exact ⟨h.next hB hb, hB, Var.new _ _ _ _ rfl, OwnP.nil _ _, apart.nil _, fun e _ => apart.nil _, far _ fun q hq => (h.ge q hq).2, fun q h1 h2 => (by cases h2), fun e he => far _ (h.p e he).lt⟩
/-- A point more. -/
theorem KF.point {B : Nat} {w0 w w' : World} {v : Value} {es : List LE} {b : Nat} {vp vp' : Value} {ps ps' : List P2} {cl : Bool} (h : KF B w0 w v es b vp ps cl) (hB : B ≤ w.heap.size) (ho : OwnP w' B vp' ps') (hg : Gr vp vp' w w') :
    KF B w0 (w'.setCell ⟨b, 0, none⟩ vp') v es b vp' ps' cl := by
  have hl := fun q hq => (h.o.ge q hq).2
  have hy : ∀ q, (yb b).ownBlock = some q → q < w.heap.size := fun q hq => by
    have := (yb_own _ _).1 hq; subst this; exact h.x.lt
  have hx' : Var w' b #[vp, .bool cl] 27 := h.x.keep (hg.keeps h.BP.symm hy b rfl)
  have PV' := h.PV.gr hg hl
  have PE' : ∀ e ∈ es, apart vp' (lev e) := fun e he => (h.PE e he).gr hg (h.o.p e he).lt
  have PB' : apart vp' (yb b) := h.BP.symm.gr hg hy
  have hs : Gr (yb b) (yb b) w' (w'.setCell ⟨b, 0, none⟩ vp') := Gr.set
  have r' : w'.ownsRow B 27 2 v es.length (lflE es) := by
    refine ⟨h.o.r.1, ?_⟩
    rcases h.o.r.2 with h1 | ⟨g, cap, cur, hv, hBg, hh, hr⟩
    · exact .inl h1
    · exact .inr ⟨g, cap, cur, hv, hBg, (hg.keeps h.PV hl g (by rw [hv]; rfl)).trans hh, hr⟩
  have hl' := fun q (hq : v.ownBlock = some q) => (World.ownsRow.lt r' q hq).2
  have r2 : (w'.setCell ⟨b, 0, none⟩ vp').ownsRow B 27 2 v es.length (lflE es) := by
    refine ⟨r'.1, ?_⟩
    rcases r'.2 with h1 | ⟨g, cap, cur, hv, hBg, hh, hr⟩
    · exact .inl h1
    · exact .inr ⟨g, cap, cur, hv, hBg, (hs.keeps h.BV hl' g (by rw [hv]; rfl)).trans hh, hr⟩
  exact ⟨⟨(h.o.be.trans (hg.below hB fun q hq => (h.po.ge q hq).1)).setCell (p := ⟨b, 0, none⟩) h.bB _, r2, fun e he => ((h.o.p e he).gr hg (h.PE e he)).gr hs (h.BE e he)⟩, h.bB, hx'.set (i := 0) vp',
    ho.keep (hs.keeps PB'.symm fun q hq => (ho.ge q hq).2), PV', PE', h.BV, PB'.symm, h.BE⟩
theorem KF.next {B : Nat} {w0 w w' : World} {v : Value} {es : List LE} {b : Nat} {vp : Value} {ps : List P2} {cl : Bool} (h : KF B w0 w v es b vp ps cl) (hB : B ≤ w.heap.size) (hb : Below w.heap.size w w') : KF B w0 w' v es b vp ps cl :=
  ⟨h.o.next hB hb, h.bB, h.x.next hb, h.po.next hb, h.PV, h.PE, h.BV, h.BP, h.BE⟩
/-- append of one line whose points lie elsewhere. -/
theorem KF.done {B : Nat} {w0 w : World} {v : Value} {es : List LE} {b c : Nat} {A : Option Addr} {ps : List P2} {cl : Bool} {ty : TypeId} (h : KF B w0 w v es b (.slice A ps.length c) ps cl) (hB : B ≤ w.heap.size) (hc : ps.length ≤ c ∧ c ≤ maxLen) (hl : es.length ≤ 5000000000) :
    ∃ v' w', (Builtin.append_ #[22, 22] ty #[v, .slice (some ⟨w.heap.size, 0, none⟩) 1 1]).run Try.prog (w.alloc (.cells (lec ⟨A, c, ps, cl⟩) 27)) = .ok v' w' ∧ KO B w0 w' v' (es ++ [⟨A, c, ps, cl⟩]) := by
  obtain ⟨i0, hi, hz0, hz1, hz2⟩ := info_parts infoLe
  obtain ⟨e, he⟩ : ∃ e : LE, e = ⟨A, c, ps, cl⟩ := ⟨_, rfl⟩
  have hown1 := World.ownsRow.alloc h.o.r (.cells (lec e) 27)
  obtain ⟨g, c', w', h1, h2, h3, h4, h5⟩ := run_append_lies (P := Try.prog) (w := w.alloc (.cells (lec e) 27)) 22 ty B 27 i0 _ 2 32 Try.underlying22 hi hz0 hz1 hz2 rfl (by decide) v es.length (lflE es) hown1
    ⟨w.heap.size, 0, none⟩ 1 1 (lec e).toList rfl (fun j u hu => by
      have hV := (Var.new w (lec e) 27 _ rfl).cell j
      rw [adr0, hV]
      simpa using hu) (fun u hu => by
      simp only [List.mem_cons, List.not_mem_nil, or_false] at hu
      rcases hu with rfl | rfl <;> rfl) (by decide) (by unfold maxLen; omega) (by omega) (by simp; omega) _ rfl
  have hgr : Gr v (.slice (some ⟨g, 0, none⟩) (es.length + 1) c') w w' := by
    refine (Gr.of_below (v := v) ((Below.refl w.heap.size w).alloc (Nat.le_refl _) (.cells (lec e) 27))).trans ⟨h3, fun k hk => ?_⟩
    rcases h4 with h4 | h4
    · refine .inl (h4.trans ?_)
      simpa [Value.ownBlock] using hk
    · refine .inr ?_
      have : g = k := by simpa [Value.ownBlock] using hk
      omega
  have hpl := fun q (hq : (Value.slice A ps.length c).ownBlock = some q) => (h.po.ge q hq).2
  refine ⟨_, w', he ▸ h1, ⟨h.o.be.trans (hgr.below hB fun q hq => (h.o.ge q hq).1), ?_, fun x hx => ?_⟩⟩
  · rw [lflE_append, List.length_append, ← he]
    simpa [lflE] using h2
  · rcases List.mem_append.1 hx with hx | hx
    · have := (h.o.p x hx).gr hgr (h.o.p x hx).ap
      exact { this with ap := (h.o.p x hx).ap.gr hgr (h.o.p x hx).lt }
    · rw [List.mem_singleton] at hx
      subst hx
      obtain ⟨A', c2, e2, hp⟩ := h.po.is
      injection e2 with e3
      subst e3
      exact ⟨pts_gr hp hgr h.PV.symm, hc, fun q hq => Nat.lt_of_lt_of_le (hpl q hq) hgr.size, h.PV.symm.gr hgr hpl⟩
theorem KO.lns {B : Nat} {w0 w : World} {v : Value} {es : List LE} (h : KO B w0 w v es) : ∃ A c, v = .slice A es.length c ∧ LnsE w A es := by
  rcases h.r.2 with ⟨h1, h2⟩ | ⟨g, cap, cur, h1, h3, h4, h5, h6, h7, h8⟩
  · have : es = [] := List.eq_nil_of_length_eq_zero h2
    subst this
    exact ⟨none, 0, h1, LnsE.nil _ _⟩
  · refine ⟨some ⟨g, 0, none⟩, cap, h1, fun _ => ⟨_, rfl, (Array.getElem?_eq_some_iff.1 h4).1, fun i e he => ?_⟩⟩
    have hc : ∀ j u, (lflE es)[j]? = some u → w.cell? ⟨g, j, none⟩ = some u := fun j u hu => by
      have := World.ownsRow.cellAt (h1 ▸ h.r) j (by
        rcases Nat.lt_or_ge j (lflE es).length with k | k
        · rw [lflE_length] at k; exact k
        · rw [List.getElem?_eq_none k] at hu; cases hu)
      rw [this]; exact hu
    obtain ⟨g1, g2⟩ := lflE_get es i e he
    have hp := h.p e (List.mem_of_getElem? he)
    rw [adr0]
    exact ⟨hc _ _ g1, hc _ _ g2, hp.p, hp.le⟩
/-- The lines that few returns. -/
def kfewL (m : Int) (ls : List Ln) : List Ln := (ls.take 4).map fun l => ⟨(l.ps.take 8).map (cutP m), l.cl⟩
end Go.Proofs.Ytjflgblplmgjlaa
