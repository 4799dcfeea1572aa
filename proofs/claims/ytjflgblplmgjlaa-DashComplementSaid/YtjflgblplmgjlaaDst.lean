/- What dash.Dash holds between two dashes. -/
import Derived.Test.YtjflgblplmgjlaaSpi
import Derived.Test.YtjflgblplmgjlaaIvn
namespace Go.Proofs.Ytjflgblplmgjlaa
open Go Go.RowKit Go.Shelf
set_option linter.unusedVariables false
set_option linter.unusedSimpArgs false

section
variable {M : Nat → Prop} {X Y : World}
theorem Var.kept {b : Nat} {c : Array Value} {t : TypeId} (h : Var X b c t) (hk : Kept M X Y) (hb : ¬ M b) : Var Y b c t := hk.2 b _ h rfl hb
theorem cell_of_kept {p : Addr} {v : Value} (h : X.cell? p = some v) (hk : Kept M X Y) (hb : ¬ M p.block) : Y.cell? p = some v := by
  obtain ⟨o, ho, hc⟩ := cells_of_cell h
  exact (World.cell?_of_block ((hk.2 _ o ho hc hb).trans ho.symm)).trans h
theorem own_kept {B size n : Nat} {e : TypeId} {v : Value} {xs : List Value} (h : X.ownsRow B e size v n xs) (hk : Kept M X Y) (hb : ∀ q, v.ownBlock = some q → ¬ M q) : Y.ownsRow B e size v n xs := by
  refine ⟨h.1, ?_⟩
  rcases h.2 with h1 | ⟨g, cap, cur, hv, hB, hh, hr⟩
  · exact .inl h1
  · exact .inr ⟨g, cap, cur, hv, hB, hk.2 g _ hh rfl (hb g (by rw [hv]; rfl)), hr⟩
theorem pts_kept {A : Option Addr} {n c : Nat} {ps : List P2} (h : Pts X A ps) (hk : Kept M X Y) (hb : ∀ q, (Value.slice A n c).ownBlock = some q → ¬ M q) : Pts Y A ps := fun hn => by
  obtain ⟨a, rfl, hl, hr⟩ := h hn
  have ha : ¬ M a.block := hb _ rfl
  refine ⟨a, rfl, Nat.lt_of_lt_of_le hl hk.1, fun i s hi => ?_⟩
  have := hr i s hi
  exact ⟨cell_of_kept this.c0 hk (by rw [add_block]; exact ha), cell_of_kept (p := ⟨(a.add (i * 2)).block, (a.add (i * 2)).off + 1, none⟩) this.c1 hk (by rw [add_block]; exact ha)⟩
theorem RowD.kept {A : Option Addr} {ss : List Sd} (h : RowD X A ss) (hk : Kept M X Y) (hb : ∀ a, A = some a → ¬ M a.block) : RowD Y A ss := fun hn => by
  obtain ⟨a, rfl, hl, hr⟩ := h hn
  have ha : ¬ M a.block := hb a rfl
  refine ⟨a, rfl, Nat.lt_of_lt_of_le hl hk.1, fun i s hi => ?_⟩
  have h1 := hr i s hi
  have e : ∀ {n : Nat} {v : Value}, X.cell? ⟨(a.add (i * 6)).block, (a.add (i * 6)).off + n, none⟩ = some v → Y.cell? ⟨(a.add (i * 6)).block, (a.add (i * 6)).off + n, none⟩ = some v := fun hc => cell_of_kept hc hk (by rw [add_block]; exact ha)
  exact ⟨cell_of_kept h1.c0 hk (by rw [add_block]; exact ha), e h1.c1, e h1.c2, e h1.c3, e h1.c4, e h1.c5⟩
theorem Wlk.kept {b g j : Nat} {ps : List P2} (h : Wlk X b g ps j) (hk : Kept M X Y) (hb : ¬ M b) (hg : ¬ M g) : Wlk Y b g ps j := by
  obtain ⟨h1, h2, A, c, hv, h3, h4, h5, h6⟩ := h
  exact ⟨h1, h2, A, c, hv.kept hk hb, h3, h4, h5.kept hk fun a ha => by rw [h6 a ha]; exact hg, h6⟩
theorem FinE.kept {v : Value} {e : LE} (h : FinE X v e) (hk : Kept M X Y) (hb : ∀ q, (lev e).ownBlock = some q → ¬ M q) : FinE Y v e :=
  ⟨pts_kept (n := e.ps.length) (c := e.c) h.p hk hb, h.le, fun q hq => Nat.lt_of_lt_of_le (h.lt q hq) hk.1, h.ap⟩
end
theorem append_lr {w : World} {B : Nat} {v : Value} {es : List LE} {e : LE} {ty : TypeId} (hB : B ≤ w.heap.size) (h : w.ownsRow B 27 2 v es.length (lflE es)) (hl : es.length ≤ 5000000000) :
    ∃ v' w', (Builtin.append_ #[22, 22] ty #[v, .slice (some ⟨w.heap.size, 0, none⟩) 1 1]).run Try.prog (w.alloc (.cells (lec e) 27)) = .ok v' w' ∧ w'.ownsRow B 27 2 v' (es ++ [e]).length (lflE (es ++ [e])) ∧ Gr v v' w w' := by
  obtain ⟨i0, hi, hz0, hz1, hz2⟩ := info_parts infoLe
  have hown1 := World.ownsRow.alloc h (.cells (lec e) 27)
  obtain ⟨g, c, w', h1, h2, h3, h4, h5⟩ := run_append_lies (P := Try.prog) (w := w.alloc (.cells (lec e) 27)) 22 ty B 27 i0 _ 2 32 Try.underlying22 hi hz0 hz1 hz2 rfl (by decide) v es.length (lflE es) hown1
    ⟨w.heap.size, 0, none⟩ 1 1 (lec e).toList rfl (fun j u hu => by
      have hV := (Var.new w (lec e) 27 _ rfl).cell j
      rw [adr0, hV]
      simpa using hu) (fun u hu => by
      simp only [List.mem_cons, List.not_mem_nil, or_false] at hu
      rcases hu with rfl | rfl <;> rfl) (by decide) (by unfold maxLen; omega) (by omega) (by simp; omega) _ rfl
  have hgr : Gr v (.slice (some ⟨g, 0, none⟩) (es.length + 1) c) w w' := by
    refine (Gr.of_below (v := v) ((Below.refl w.heap.size w).alloc (Nat.le_refl _) (.cells (lec e) 27))).trans ⟨h3, fun k hk => ?_⟩
    rcases h4 with h4 | h4
    · refine .inl (h4.trans ?_)
      simpa [Value.ownBlock] using hk
    · refine .inr ?_
      have : g = k := by simpa [Value.ownBlock] using hk
      omega
  refine ⟨_, w', h1, ?_, hgr⟩
  rw [lflE_append, List.length_append]
  simpa [lflE] using h2

/-- Spans follow each other. -/
theorem spansTo_le' {pat : List Int} (h : okPat pat) (hn : pat ≠ []) {b0 len : Int} {i : Nat} : ∀ p ∈ spansTo pat b0 len i, p.2 ≤ bgn pat b0 i := by
  induction i with
  | zero => intro p hp; cases hp
  | succ i ih =>
    intro p hp
    have hs := bgn_ge h hn b0 (Nat.le_succ i)
    simp only [Nat.succ_eq_add_one] at hs
    rw [spansTo_succ] at hp
    rcases List.mem_append.1 hp with h1 | h1
    · have := ih p h1; push_cast at hs; omega
    · unfold spn at h1
      split at h1
      · rw [Option.toList_some, List.mem_singleton] at h1
        subst h1
        show min (bgn pat b0 (i + 1)) len ≤ _
        omega
      · simp at h1
theorem spans_pair {pat : List Int} (h : okPat pat) (hn : pat ≠ []) (b0 len : Int) (i : Nat) : (spansTo pat b0 len i).Pairwise fun p q => p.2 ≤ q.1 := by
  induction i with
  | zero => exact List.Pairwise.nil
  | succ i ih =>
    rw [spansTo_succ, List.pairwise_append]
    refine ⟨ih, ?_, fun p hp q hq => ?_⟩
    · cases spn pat b0 len i <;> simp
    · have h1 := spansTo_le' h hn p hp
      unfold spn at hq
      split at hq
      · rw [Option.toList_some, List.mem_singleton] at hq
        subst hq
        show p.2 ≤ max (bgn pat b0 i) 0
        omega
      · simp at hq
theorem spans_in {pat : List Int} {b0 len : Int} {i : Nat} : ∀ p ∈ spansTo pat b0 len i, 0 ≤ p.1 ∧ p.1 < p.2 ∧ p.2 ≤ len := by
  intro p hp
  unfold spansTo at hp
  obtain ⟨k, -, hk⟩ := List.mem_filterMap.1 hp
  unfold spn at hk
  split at hk
  · rename_i h1
    have := Option.some.inj hk
    subst this
    exact ⟨by show 0 ≤ max _ _; omega, h1.2, by show min _ _ ≤ len; omega⟩
  · cases hk
theorem spans_sorted {pat : List Int} (h : okPat pat) (hn : pat ≠ []) {b0 len : Int} {k k' : Nat} {p q : Int × Int} (hp : (spans pat b0 len)[k]? = some p) (hq : (spans pat b0 len)[k']? = some q) (hk : k < k') : p.2 ≤ q.1 := by
  have h1 := spans_pair h hn b0 len (len - b0).toNat
  obtain ⟨h2, e2⟩ := List.getElem?_eq_some_iff.1 hp
  obtain ⟨h3, e3⟩ := List.getElem?_eq_some_iff.1 hq
  have := List.pairwise_iff_getElem.1 h1 k k' h2 h3 hk
  unfold spans at e2 e3
  rw [e2, e3] at this
  exact this

/-- The lines that Dash has made of the first k spans. -/
def dashL (qs : List P2) (sp : List (Int × Int)) (k : Nat) : List Ln := (sp.take k).map fun p => ⟨dashS (sidesP qs) p.1 p.2, false⟩
theorem dashL_succ {qs : List P2} {sp : List (Int × Int)} {k : Nat} {p : Int × Int} (h : sp[k]? = some p) : dashL qs sp (k + 1) = dashL qs sp k ++ [⟨dashS (sidesP qs) p.1 p.2, false⟩] := by
  unfold dashL
  rw [List.take_add_one, h, List.map_append]
  rfl
/-- The numbers of the blocks: those that a loop finds lie below S. -/
structure Nums (w : World) (S b g D r1 r2 bp bq bl : Nat) : Prop where
  lo : w.heap.size ≤ r1 ∧ w.heap.size ≤ r2 ∧ w.heap.size ≤ g ∧ w.heap.size ≤ b ∧ w.heap.size ≤ D
  up : b < S ∧ D < S ∧ r1 < S ∧ r2 < S ∧ g < S ∧ bp < S ∧ bq < S ∧ bl < S
  nb : b ≠ D ∧ b ≠ r1 ∧ b ≠ r2 ∧ b ≠ bp ∧ b ≠ bq ∧ b ≠ bl
  nD : D ≠ r1 ∧ D ≠ r2 ∧ D ≠ bp ∧ D ≠ bq ∧ D ≠ bl ∧ D ≠ g
  rr : r1 ≠ r2
structure DSt (w : World) (S b g D r1 r2 bp bq bl : Nat) (V : Array Value) (Vp Vq Vl : Value) (qs : List P2) (sp : List (Int × Int)) (k : Nat) (v : Value) (es : List LE) (j : Nat) (X : World) : Prop where
  be : Below w.heap.size w X
  sz : S ≤ X.heap.size
  dv : Var X D #[v] 22
  wk : Wlk X b g qs j
  pa : ∀ k' q, k ≤ k' → sp[k']? = some q → Past qs j q.1
  v1 : Var X r1 #[.slice none 0 0] 22
  v2 : Var X r2 #[.int .i64 0] 31
  xp : Var X bp #[Vp] 3
  xq : Var X bq #[Vq] 23
  xl : Var X bl #[Vl] 3
  rw : X.ownsRow S 27 2 v es.length (lflE es)
  fe : ∀ e ∈ es, FinE X v e ∧ ∀ q, (lev e).ownBlock = some q → S ≤ q
  eq : es.map LE.ln = dashL qs sp k
section
variable {w X Y : World} {S b g D r1 r2 bp bq bl : Nat} {V : Array Value} {Vp Vq Vl : Value} {qs : List P2} {sp : List (Int × Int)} {k : Nat} {v : Value} {es : List LE} {j : Nat}
theorem DSt.own (h : DSt w S b g D r1 r2 bp bq bl V Vp Vq Vl qs sp k v es j X) : ∀ q, v.ownBlock = some q → S ≤ q ∧ q < X.heap.size := World.ownsRow.lt h.rw
/-- What does not touch its blocks. -/
theorem DSt.still {M : Nat → Prop} (h : DSt w S b g D r1 r2 bp bq bl V Vp Vq Vl qs sp k v es j X) (hk : Kept M X Y) (hM : ∀ q, ¬ M q) (hb : Below w.heap.size w Y) : DSt w S b g D r1 r2 bp bq bl V Vp Vq Vl qs sp k v es j Y :=
  ⟨hb, Nat.le_trans h.sz hk.1, h.dv.kept hk (hM _), h.wk.kept hk (hM _) (hM _), h.pa, h.v1.kept hk (hM _), h.v2.kept hk (hM _), h.xp.kept hk (hM _), h.xq.kept hk (hM _), h.xl.kept hk (hM _), own_kept h.rw hk fun q _ => hM q,
    fun e he => ⟨(h.fe e he).1.kept hk fun q _ => hM q, (h.fe e he).2⟩, h.eq⟩
theorem DSt.next (h : DSt w S b g D r1 r2 bp bq bl V Vp Vq Vl qs sp k v es j X) (hb : Below X.heap.size X Y) : DSt w S b g D r1 r2 bp bq bl V Vp Vq Vl qs sp k v es j Y :=
  h.still (M := fun _ => False) (Kept.below hb) (fun _ hf => hf) (below_next h.be hb)
theorem DSt.put (h : DSt w S b g D r1 r2 bp bq bl V Vp Vq Vl qs sp k v es j X) {l : Nat} {o : Obj} (o' : Obj) (hl : w.heap.size ≤ l) (ho : X.heap[l]? = some o) (h1 : o.isCells = false) (h2 : o.isWalk = false) : DSt w S b g D r1 r2 bp bq bl V Vp Vq Vl qs sp k v es j (X.putObj l o') :=
  h.still (M := fun _ => False) (Kept.put o' ho h1) (fun _ hf => hf) (h.be.trans (belowK_b (w := w) (Nat.le_refl _) X l o o' hl ho h1 h2))
/-- The blocks that a round may change. -/
def Mut (b D : Nat) (v : Value) : Nat → Prop := fun q => q = D ∨ q = b ∨ v.ownBlock = some q
theorem Gr.grown (hN : Nums w S b g D r1 r2 bp bq bl) {u u' : Value} (hg : Gr u u' X Y) (hb : Below w.heap.size w X) (hu : ∀ q, u.ownBlock = some q → w.heap.size ≤ q) : Below w.heap.size w Y :=
  hb.trans (hg.below hb.size hu)
/-- One dash more: between has given vp, the line is appended, the slice is stored. -/
theorem DSt.round {X1 X3 : World} {v' : Value} {j' c : Nat} {A : Option Addr} {p : Int × Int} (hN : Nums w S b g D r1 r2 bp bq bl) (h : DSt w S b g D r1 r2 bp bq bl V Vp Vq Vl qs sp k v es j X)
    (hg1 : Gr (yb b) (yb b) X X1) (hw1 : Wlk X1 b g qs j') (hp1 : Past qs j' p.2) (hvp : OwnP X1 X.heap.size (.slice A (dashS (sidesP qs) p.1 p.2).length c) (dashS (sidesP qs) p.1 p.2)) (hc : (dashS (sidesP qs) p.1 p.2).length ≤ c ∧ c ≤ maxLen)
    (hr : X3.ownsRow S 27 2 v' (es ++ [(⟨A, c, dashS (sidesP qs) p.1 p.2, false⟩ : LE)]).length (lflE (es ++ [(⟨A, c, dashS (sidesP qs) p.1 p.2, false⟩ : LE)]))) (hg3 : Gr v v' X1 X3)
    (hk : sp[k]? = some p) (hso : ∀ k' q, k < k' → sp[k']? = some q → p.2 ≤ q.1) :
    DSt w S b g D r1 r2 bp bq bl V Vp Vq Vl qs sp (k + 1) v' (es ++ [(⟨A, c, dashS (sidesP qs) p.1 p.2, false⟩ : LE)]) j' (X3.setCell ⟨D, 0, none⟩ v') ∧
      Kept (Mut b D v) X (X3.setCell ⟨D, 0, none⟩ v') ∧ KeepsOthers X (X3.setCell ⟨D, 0, none⟩ v') ∧ (∀ q, Mut b D v' q → q < (X3.setCell ⟨D, 0, none⟩ v').heap.size) ∧ ∀ q, Mut b D v' q → Mut b D v q ∨ X.heap.size ≤ q := by
  obtain ⟨⟨lo1, lo2, lo3, lo4, lo5⟩, ⟨up1, up2, up3, up4, up5, up6, up7, up8⟩, ⟨nb1, nb2, nb3, nb4, nb5, nb6⟩, ⟨nD1, nD2, nD3, nD4, nD5, nD6⟩, nrr⟩ := hN
  have hv := h.own
  have hgb : g < b := h.wk.gb
  have hbS : ∀ q, (yb b).ownBlock = some q → w.heap.size ≤ q := fun q hq => by have := (yb_own _ _).1 hq; omega
  have hvS : ∀ q, v.ownBlock = some q → w.heap.size ≤ q := fun q hq => by have := hv q hq; omega
  have k1 : Kept (fun q => q = b) X X1 := Kept.grown hg1.g fun r hr => ((yb_own _ _).1 hr).symm
  have k3 : Kept (fun q => v.ownBlock = some q) X1 X3 := Kept.grown hg3.g fun r hr => hr
  have k4 : Kept (fun q => q = D) X3 (X3.setCell ⟨D, 0, none⟩ v') := Kept.set (M := fun q => q = D) (p := ⟨D, 0, none⟩) rfl v'
  have wid : ∀ {M M' : Nat → Prop} {A B : World}, Kept M A B → (∀ q, M q → M' q) → Kept M' A B := fun hk hi => ⟨hk.1, fun q o h1 h2 h3 => hk.2 q o h1 h2 fun hm => h3 (hi q hm)⟩
  have ka : Kept (Mut b D v) X (X3.setCell ⟨D, 0, none⟩ v') := ((wid k1 fun q hq => .inr (.inl hq)).trans (wid k3 fun q hq => .inr (.inr hq))).trans (wid k4 fun q hq => .inl hq)
  have low : ∀ q, q < S → q ≠ b → q ≠ D → ¬ Mut b D v q := fun q h1 h2 h3 hm => by
    rcases hm with e | e | e
    · exact h3 e
    · exact h2 e
    · have := hv q e; omega
  have bev := (h.be.trans (hg1.below h.be.size hbS)).trans (hg3.below (Nat.le_trans h.be.size hg1.size) hvS)
  have hvp' := fun q (hq : (Value.slice A (dashS (sidesP qs) p.1 p.2).length c).ownBlock = some q) => hvp.ge q hq
  have hszX := h.sz
  have hD1 : Var X1 D #[v] 22 := h.dv.kept k1 (by show D ≠ b; omega)
  have hD3 : Var X3 D #[v] 22 := hD1.kept k3 (fun e => by have := hv D e; omega)
  have hw3 : Wlk X3 b g qs j' := hw1.kept k3 (fun e => by have := hv b e; omega) (fun e => by have := hv g e; omega)
  have hv' : ∀ q, v'.ownBlock = some q → v.ownBlock = some q ∨ X1.heap.size ≤ q := hg3.o
  have hv'S : ∀ q, v'.ownBlock = some q → S ≤ q ∧ q < X3.heap.size := World.ownsRow.lt hr
  have hX1 := hg1.size
  refine ⟨⟨bev.setCell (p := ⟨D, 0, none⟩) lo5 _, by rw [World.size_setCell]; exact Nat.le_trans hszX (Nat.le_trans hX1 hg3.size), ?_, hw3.kept k4 nb1 (by show ¬ g = D; omega), fun k' q hk' hq => hp1.more (hso k' q (by omega) hq),
    h.v1.kept ka (low _ up3 (Ne.symm nb2) (Ne.symm nD1)), h.v2.kept ka (low _ up4 (Ne.symm nb3) (Ne.symm nD2)), h.xp.kept ka (low _ up6 (Ne.symm nb4) (Ne.symm nD3)), h.xq.kept ka (low _ up7 (Ne.symm nb5) (Ne.symm nD4)), h.xl.kept ka (low _ up8 (Ne.symm nb6) (Ne.symm nD5)),
    own_kept hr k4 (fun q hq => by show ¬ q = D; have := hv'S q hq; omega), fun e he => ?_, ?_⟩, ka, ?_, ?_, ?_⟩
  · have := hD3.set (i := 0) v'
    simpa using this
  · rcases List.mem_append.1 he with he | he
    · obtain ⟨f1, f2⟩ := h.fe e he
      have f3 := f1.kept ka fun q hq hm => by
        rcases hm with e1 | e1 | e1
        · have := f2 q hq; omega
        · have := f2 q hq; omega
        · exact f1.ap q e1 hq
      refine ⟨{ f3 with ap := fun q hq1 hq2 => ?_ }, f2⟩
      rcases hv' q hq1 with e1 | e1
      · exact f1.ap q e1 hq2
      · have := f1.lt q hq2; omega
    · rw [List.mem_singleton] at he
      subst he
      obtain ⟨A', c', e', hp'⟩ := hvp.is
      injection e' with e1 _ e2
      subst e1
      have hap : ∀ q, (Value.slice A (dashS (sidesP qs) p.1 p.2).length c).ownBlock = some q → ¬ v.ownBlock = some q := fun q hq e => by have := hvp' q hq; have := hv q e; omega
      have hp3 : Pts X3 A (dashS (sidesP qs) p.1 p.2) := pts_kept (n := (dashS (sidesP qs) p.1 p.2).length) (c := c) hp' k3 hap
      have hp4 : Pts (X3.setCell ⟨D, 0, none⟩ v') A (dashS (sidesP qs) p.1 p.2) := pts_kept (n := (dashS (sidesP qs) p.1 p.2).length) (c := c) hp3 k4 (fun q hq => by show ¬ q = D; have := hvp' q hq; omega)
      refine ⟨⟨hp4, hc, fun q hq => by rw [World.size_setCell]; exact Nat.lt_of_lt_of_le (hvp' q hq).2 hg3.size, fun q hq1 hq2 => ?_⟩, fun q hq => by have := hvp' q hq; omega⟩
      rcases hv' q hq1 with e1 | e1
      · exact hap q hq2 e1
      · have := hvp' q hq2; omega
  · rw [List.map_append, h.eq, dashL_succ hk]
    rfl
  · refine ((KeepsOthers.of_grownBy hg1.g fun r o hr ho => ?_).trans (KeepsOthers.of_grownBy hg3.g fun r o hr ho => ?_)).trans (KeepsOthers.setCell _ _ _)
    · have e := (yb_own _ _).1 hr
      subst e
      obtain ⟨-, -, A', c', hv2, -⟩ := h.wk
      unfold Var at hv2
      rw [hv2] at ho
      rw [← Option.some.inj ho]; rfl
    · have hrw := own_kept h.rw k1 (fun q hq => by show ¬ q = b; have := hv q hq; omega)
      rcases hrw.2 with ⟨h1, h2⟩ | ⟨g', cap, cur, h1, h3, h4, h5, h6, h7, h8⟩
      · rw [h1] at hr; cases hr
      · rw [h1] at hr
        have e : g' = r := by simpa [Value.ownBlock] using hr
        subst e
        rw [h4] at ho
        rw [← Option.some.inj ho]; rfl
  · intro q hq
    rw [World.size_setCell]
    rcases hq with e | e | e
    · rw [e]; exact hD3.lt
    · rw [e]; exact hw3.lt
    · exact (hv'S q e).2
  · intro q hq
    rcases hq with e | e | e
    · exact .inl (.inl e)
    · exact .inl (.inr (.inl e))
    · rcases hv' q e with e1 | e1
      · exact .inl (.inr (.inr e1))
      · exact .inr (by omega)
end
end Go.Proofs.Ytjflgblplmgjlaa
