/- The law that goes over the rows of a region. -/
import Derived.Test.YtldbpabnfjnpbaaRow
import Derived.Test.YtldbpabnfjnpbaaSqI
import Derived.Sort.CutIn
namespace Go.Proofs.Ytldbpabnfjnpbaa
open Go Go.RowKit Go.Shelf
attribute [local go_sem] Oper.semAt_some
set_option linter.unusedVariables false
set_option linter.unusedSimpArgs false

theorem rowOf_stop {y : Int} : ∀ {xs : List Rn} {s : Rn}, xs[(rowOf y xs).length]? = some s → s.y ≠ y
  | [], s, h => by simp [rowOf] at h
  | r :: xs, s, h => by
    by_cases e : r.y = y
    · unfold rowOf at h
      rw [List.takeWhile_cons_of_pos (by simpa using e), List.length_cons, List.getElem?_cons_succ] at h
      exact rowOf_stop (xs := xs) h
    · unfold rowOf at h
      rw [List.takeWhile_cons_of_neg (by simpa using e)] at h
      simp at h
      rw [← h]
      exact e
/-- Behind a row all lies lower. -/
theorem rows_up {ss : List Rn} (h : chk ss = 0) {i : Nat} {r : Rn} (hr : ss[i]? = some r) : ∀ s ∈ ss.drop (i + (rowOf r.y (ss.drop i)).length), r.y < s.y := fun s hs => by
  obtain ⟨hil, -⟩ := List.getElem?_eq_some_iff.1 hr
  have hd : ss.drop i = r :: ss.drop (i + 1) := by rw [List.drop_eq_getElem_cons hil, (List.getElem?_eq_some_iff.1 hr).2]
  have hp := rowOf_pos r (ss.drop (i + 1))
  rw [← hd] at hp
  obtain ⟨j, hj, e⟩ := List.mem_iff_getElem.1 hs
  have hj' := hj
  rw [List.length_drop] at hj'
  have hst : ss[i + (rowOf r.y (ss.drop i)).length]? = some ss[i + (rowOf r.y (ss.drop i)).length] := List.getElem?_eq_getElem (by omega)
  have h1 := rowOf_stop (y := r.y) (xs := ss.drop i) (s := ss[i + (rowOf r.y (ss.drop i)).length]) (by rw [List.getElem?_drop]; exact hst)
  have h2 := (chk_all h).2 _ _ _ _ (show i < i + (rowOf r.y (ss.drop i)).length by omega) hr hst
  have he : s = ss[i + (rowOf r.y (ss.drop i)).length + j] := by rw [← e, List.getElem_drop]
  unfold Bh at h2
  rcases Nat.eq_zero_or_pos j with k | k
  · subst k
    simp only [Nat.add_zero] at he
    rw [← he] at h1 h2
    omega
  · have h3 := (chk_all h).2 _ _ _ _ (show i + (rowOf r.y (ss.drop i)).length < i + (rowOf r.y (ss.drop i)).length + j by omega) hst (List.getElem?_eq_getElem (by omega))
    unfold Bh at h3
    rw [← he] at h3
    omega

/-- The boxes of the law. -/
structure Rio (w : World) (v : Nat) (A : Option Addr) (n c : Nat) (V : Bool) (vl : Value) (y : Int) (b : Bool) (X : World) : Prop where
  gb : Below w.heap.size w X
  z : v + 4 ≤ X.heap.size
  o : Var X w.heap.size #[.bool b] 4
  va : Var X v #[.bool V] 4
  al : Var X (v + 1) #[vl] 22
  la : Var X (v + 2) #[.int .i64 y] 3
  gc : Var X (v + 3) #[.slice A n c] 22
section
variable {w X Y : World} {v : Nat} {A : Option Addr} {n c : Nat} {V : Bool} {vl : Value} {y : Int} {b : Bool}
theorem Rio.next (h : Rio w v A n c V vl y b X) (hb : Below X.heap.size X Y) : Rio w v A n c V vl y b Y :=
  ⟨below_next h.gb hb, Nat.le_trans h.z hb.size, h.o.next hb, h.va.next hb, h.al.next hb, h.la.next hb, h.gc.next hb⟩
theorem Rio.put (h : Rio w v A n c V vl y b X) (hw : w.heap.size + 1 ≤ v) {l : Nat} {o : Obj} (o' : Obj) (hl : v + 4 ≤ l) (ho : X.heap[l]? = some o) (h1 : o.isCells = false) (h2 : o.isWalk = false) : Rio w v A n c V vl y b (X.putObj l o') :=
  ⟨h.gb.trans (belowK_b (w := w) (Nat.le_refl _) X l o o' (by omega) ho h1 h2), by simpa [World.putObj] using h.z, h.o.keep (World.putObj_heap_other (by omega)), h.va.keep (World.putObj_heap_other (by omega)), h.al.keep (World.putObj_heap_other (by omega)), h.la.keep (World.putObj_heap_other (by omega)), h.gc.keep (World.putObj_heap_other (by omega))⟩
theorem Rio.setO (h : Rio w v A n c V vl y b X) (hw : w.heap.size + 1 ≤ v) (u : Bool) : Rio w v A n c V vl y u (X.setCell ⟨w.heap.size, 0, none⟩ (.bool u)) :=
  ⟨h.gb.setCell (p := ⟨w.heap.size, 0, none⟩) (Nat.le_refl _) _, by rw [World.size_setCell]; exact h.z, h.o.set _, h.va.far (by show v ≠ w.heap.size; omega) _, h.al.far (by show v + 1 ≠ w.heap.size; omega) _, h.la.far (by show v + 2 ≠ w.heap.size; omega) _, h.gc.far (by show v + 3 ≠ w.heap.size; omega) _⟩
theorem Rio.setL (h : Rio w v A n c V vl y b X) (hw : w.heap.size + 1 ≤ v) (u : Value) : Rio w v A n c V u y b (X.setCell ⟨v + 1, 0, none⟩ u) :=
  ⟨h.gb.setCell (p := ⟨v + 1, 0, none⟩) (by show w.heap.size ≤ v + 1; omega) _, by rw [World.size_setCell]; exact h.z, h.o.far (by show w.heap.size ≠ v + 1; omega) _, h.va.far (by show v ≠ v + 1; omega) _, h.al.set _, h.la.far (by show v + 2 ≠ v + 1; omega) _, h.gc.far (by show v + 3 ≠ v + 1; omega) _⟩
theorem Rio.setY (h : Rio w v A n c V vl y b X) (hw : w.heap.size + 1 ≤ v) (u : Int) : Rio w v A n c V vl u b (X.setCell ⟨v + 2, 0, none⟩ (.int .i64 u)) :=
  ⟨h.gb.setCell (p := ⟨v + 2, 0, none⟩) (by show w.heap.size ≤ v + 2; omega) _, by rw [World.size_setCell]; exact h.z, h.o.far (by show w.heap.size ≠ v + 2; omega) _, h.va.far (by show v ≠ v + 2; omega) _, h.al.far (by show v + 1 ≠ v + 2; omega) _, h.la.set _, h.gc.far (by show v + 3 ≠ v + 2; omega) _⟩
/-- What a round changes alone: it keeps the boxes, but for the row. -/
theorem Rio.grown (h : Rio w v A n c V vl y b X) (hw : w.heap.size + 1 ≤ v) {row : Option Nat} (hg : X.grownBy Y row) (hr : ∀ r, row = some r → v + 4 ≤ r) : Rio w v A n c V vl y b Y := by
  have far : ∀ k, k < v + 4 → Y.heap[k]? = X.heap[k]? := fun k hk => hg.block k (by have := h.z; omega) (fun e => by have := hr k e.symm; omega)
  exact ⟨h.gb.grown hg h.gb.size (fun k e => by have := hr k e; omega), Nat.le_trans h.z hg.size, h.o.keep (far _ (by omega)), h.va.keep (far _ (by omega)), h.al.keep (far _ (by omega)), h.la.keep (far _ (by omega)), h.gc.keep (far _ (by omega))⟩
end
theorem Runs.putE {A : World} {A' : Option Addr} {xs : List Rn} (h : Runs A A' xs) {l : Nat} {o : Obj} (o' : Obj) (ho : A.heap[l]? = some o) (h1 : o.isCells = false) : Runs (A.putObj l o') A' xs := fun hn => by
  obtain ⟨a, e, hl, hr⟩ := h hn
  refine ⟨a, e, by simpa [World.putObj] using hl, fun i s hi => ?_⟩
  obtain ⟨c0, c1, c2⟩ := hr i s hi
  have kept : ∀ {p : Addr} {v : Value}, A.cell? p = some v → (A.putObj l o').cell? p = some v := fun hc => cell_kept hc (grownBy_putObj' A l o') (fun r e => by cases e; exact ⟨_, ho, h1⟩)
  exact ⟨kept c0, kept c1, kept c2⟩
theorem Runs.setE {A : World} {gb : Nat} {xs : List Rn} (h : Runs A (some ⟨gb, 0, none⟩) xs) {b : Nat} (hb : gb ≠ b) (u : Value) : Runs (A.setCell ⟨b, 0, none⟩ u) (some ⟨gb, 0, none⟩) xs := fun hn => by
  obtain ⟨a, e, hl, hr⟩ := h hn
  cases e
  refine ⟨_, rfl, by rw [World.size_setCell]; exact hl, fun i s hi => ?_⟩
  obtain ⟨c0, c1, c2⟩ := hr i s hi
  have kept : ∀ {p : Addr} {v : Value}, p.block = gb → A.cell? p = some v → (A.setCell ⟨b, 0, none⟩ u).cell? p = some v := fun hp hc => (World.cell?_of_block (Below.heap_setCell _ _ _ _ (by rw [hp]; exact hb))).trans hc
  exact ⟨kept (by rw [add_block]) c0, kept (by first | rfl | (simp only [add_block]) | rw [add_block]) c1, kept (by first | rfl | (simp only [add_block]) | rw [add_block]) c2⟩
theorem OwnR.putE {A : World} {B : Nat} {v : Value} {xs : List Rn} (h : OwnR A B v xs) {l : Nat} {o : Obj} (o' : Obj) (ho : A.heap[l]? = some o) (h1 : o.isCells = false) : OwnR (A.putObj l o') B v xs := by
  rcases h.2 with ⟨e1, e2⟩ | ⟨g, cap, cur, hv, hB, hh, hr⟩
  · exact ⟨h.1, .inl ⟨e1, e2⟩⟩
  · refine ⟨h.1, .inr ⟨g, cap, cur, hv, hB, (World.putObj_heap_other (fun e => ?_)).trans hh, hr⟩⟩
    subst e
    rw [hh] at ho
    cases ho
    cases h1
theorem others_ofE {A B : World} (h : Below A.heap.size A B) : KeepsOthers A B := ⟨h.size, fun k o hk _ => (h.block k (Array.getElem?_eq_some_iff.1 hk).1).trans hk⟩
theorem run_loadRs {ρ : Operand → Value} {dst : Option Tmp} {ty : TypeId} {pos : String} {af : Array Edge} {x : Operand} {w : World} {gd : Option (Nat × Bool)} {a : Addr} {v : Value} (hx : ρ x = .pointer (some a)) (hV : w.cell? a = some v) :
    (execOp ρ { dst := dst, op := .load 22 x, type := ty, pos := pos, after := af, guard := gd }).run Try.prog w = .ok (.value v) w := by
  go_simp
theorem run_storeRs {ρ : Operand → Value} {x y : Operand} {t : TypeId} {pos : String} {af : Array Edge} {w : World} {gd : Option (Nat × Bool)} {B j k c : Nat} {A : Option Addr} {u : Value} (hp : ρ x = .pointer (some ⟨B, j, none⟩)) (hq : ρ y = .slice A k c)
    (hc : w.cell? ⟨B, j, none⟩ = some u) (hf : w.frozen? ⟨B, j, none⟩ = false) :
    (execOp ρ { dst := none, op := .store 22 x y, type := t, pos := pos, after := af, guard := gd }).run Try.prog w = .ok .skip (w.setCell ⟨B, j, none⟩ (.slice A k c)) := by
  go_simp
/-- The law's result, behind the loop. -/
theorem rio_end {w X : World} {v : Nat} {A : Option Addr} {n c : Nat} {V : Bool} {vl : Value} {y : Int} {D : Nat} {tmps : Array Value} (h : Rio w v A n c V vl y true X) (hd : v + 4 ≤ D) (hw : w.heap.size + 1 ≤ v) (hK : X.heap[D]? = some (.deferred (some []))) (ht : tmps.getD 2 undef = .pointer (some ⟨w.heap.size, 0, none⟩)) :
    bodyPostM Fence.wide 6 Try.prog Try.f6 (fun e w' => e = .returned (.bool true) ∧ Below w.heap.size w w') .ret { tmps := tmps, defers := [{ target := .collected D, args := #[] }] } X := by
  refine ⟨by simp, .inl ⟨_, _, rfl, run_takeDeferred hK, ?_⟩⟩
  have hc := cell_kept (h.o.cell 0) (grownBy_putObj' _ D (.deferred none)) (fun r e => by cases e; exact ⟨_, hK, rfl⟩)
  refine ⟨.bool true, ?_, rfl, h.gb.trans (belowK_b (w := w) (Nat.le_refl _) _ D _ _ (by omega) hK rfl rfl)⟩
  simp only [Array.getD_eq_getD_getElem?] at ht
  simp [results, Try.f6, go_sem, hc, ht]

set_option maxRecDepth 100000 in
set_option maxHeartbeats 4000000 in
theorem rio_any (A : Option Addr) (n c : Nat) (ss : List Rn) (w : World) (hn : n = ss.length) (hs : Runs w A ss) (hnc : n ≤ c) (hcl : c ≤ maxLen) :
    Calls Try.prog 6 #[.slice A n c] w fun e w' => e = .returned (.bool true) ∧ Below w.heap.size w w' := by
  have HS := hid hs
  have HN := hid hn
  have hm : n ≤ maxLen := Nat.le_trans hnc hcl
  clear hs hn
  refine (callsIn_wide (n := 6)).1 ?_
  refine callsIn_of_wp_marks Try.func6 rfl trivial ?_ rfl
  simp only [Try.ntmps6, List.size_toArray, List.length_cons, List.length_nil, Nat.reduceAdd, Nat.reduceSub, Array.replicate_succ, Array.replicate_zero, List.push_toArray, List.append_toArray, List.nil_append, List.cons_append]
  gi_wp2
  refine ⟨trivial, ?_⟩
  refine (callsIn_wide.2 (regions_any _)).mono ?_
  rintro e w1 ⟨rfl, hb1⟩
  have HB1 := hid (below_next (below_alloc (Below.refl w.heap.size w) _) hb1)
  have HV0 := hid ((Var.new w #[.bool false] 4 _ rfl).next hb1)
  have hs1 : w.heap.size + 1 ≤ w1.heap.size := by have := hb1.size; simp at this; exact this
  clear hb1
  gi_wp2
  refine ⟨trivial, ?_⟩
  refine (callsIn_wide.2 (rcheck_any A ss n c _ HN.out hm (HS.out.next HB1.out))).mono ?_
  rintro e v0 ⟨rfl, hb2⟩
  have HB2 := hid (below_next HB1.out hb2)
  have hs2 : w.heap.size + 1 ≤ v0.heap.size := by have := hb2.size; omega
  have HA0 := hid (HV0.out.next hb2)
  clear hb2 HV0 HB1
  obtain ⟨V, hV⟩ : ∃ V : Bool, V = (chk ss == 0) := ⟨_, rfl⟩
  have HVV := hid hV
  have hV' := hV.symm
  clear hV
  gi_wp2
  refine ⟨trivial, ?_⟩
  refine (callsIn_wide.2 (rows_make _ _ _ _)).mono ?_
  rintro e X ⟨rfl, hX⟩
  rw [show (((v0.alloc (.cells #[.bool V] 4)).alloc (.cells #[.slice none 0 0] 22)).alloc (.cells #[.int .i64 (-10000)] 3)).heap.size = v0.heap.size + 3 from by simp]
  have sX : X.heap.size = v0.heap.size + 4 := by rw [hX]; simp
  have HC0 : Hid (Rio w v0.heap.size A n c V (.slice none 0 0) (-10000) false X) := hid (by
    rw [hX]
    refine ⟨below_alloc (below_alloc (below_alloc (below_alloc HB2.out _) _) _) _, by simp, (((HA0.out.alloc _).alloc _).alloc _).alloc _, (((Var.new _ _ _ _ rfl).alloc _).alloc _).alloc _, ((Var.new _ _ _ _ (by simp)).alloc _).alloc _, (Var.new _ _ _ _ (by simp)).alloc _, Var.new _ _ _ _ (by simp)⟩)
  have HRX := hid (HS.out.next HC0.out.gb)
  clear hX HA0 HB2
  gi_wp2
  refine range_all (gf := 58) (lb := #[.pointer (some ⟨v0.heap.size + 3, 0, none⟩)]) rfl (by omega) rfl trivial (enters_of Try.func58 (by kernel_rfl) rfl) (RowAt (v0.heap.size + 4) ss) (rowsN ss)
    (fun q M X => ∃ vl i y, M = (fun z => z < v0.heap.size + 4 ∨ Value.ownBlock vl = some z) ∧ Rio w v0.heap.size A n c V vl y false X ∧ OwnR X (v0.heap.size + 4) vl (ss.take i) ∧ Runs X A ss ∧ i ≤ n ∧ (rws ss).drop q = rws (ss.drop i) ∧ (chk ss = 0 → ∀ r ∈ ss.drop i, y < r.y) ∧ (q = 0 → i = 0))
    (fun _ _ _ => False)
    (rows_iter 5 (by omega) (v0.heap.size + 3) (v0.heap.size + 4) A ss n c _ HN.out hnc hcl (fun q M X h => by obtain ⟨vl, i, y, -, h1, -, h3, -⟩ := h; exact ⟨h1.gc.cell 0, h1.gc.lt, h3, h1.z⟩)) (fun q v X h => by obtain ⟨g, y, gb, cg, -, rfl, -⟩ := h; rfl)
    (fun q M X Y h hb => by obtain ⟨vl, i, y, h0, h1, h2, h3, h4⟩ := h; exact ⟨vl, i, y, h0, h1.next hb, h2.next hb, h3.next hb, h4⟩)
    (fun q M X l o o' h hl ho e1 e2 => by obtain ⟨vl, i, y, h0, h1, h2, h3, h4⟩ := h; exact ⟨vl, i, y, h0, h1.put hs2 o' (by omega) ho e1 e2, h2.putE o' ho e1, h3.putE o' ho e1, h4⟩)
    (fun cd q X l o o' h hl ho e1 e2 => h)
    (fun z => z < v0.heap.size + 4 ∨ (Value.slice none 0 0).ownBlock = some z) (fun q h => by rw [sX]; exact h.elim id (fun e => by cases e))
    ⟨.slice none 0 0, 0, -10000, rfl, HC0.out, OwnR.nil _ _, HRX.out, Nat.zero_le _, rfl, fun h r hr => by
      obtain ⟨⟨⟨y1, y2⟩, -⟩, -⟩ := (show ((-8192 ≤ r.y ∧ r.y ≤ 8191) ∧ (-8192 ≤ r.a ∧ r.a ≤ 8192) ∧ (-8192 ≤ r.b ∧ r.b ≤ 8192)) ∧ r.a < r.b from (chk_all h).1 r (List.mem_of_mem_drop hr))
      omega, fun _ => rfl⟩
    (fun q M v a' X => ∃ vl i y0 g y gb cg, M = (fun z => z < v0.heap.size + 4 ∨ Value.ownBlock vl = some z) ∧ Rio w v0.heap.size A n c V vl y0 false X ∧ OwnR X (v0.heap.size + 4) vl (ss.take i) ∧ Runs X A ss ∧ i ≤ n ∧ (rws ss).drop q = rws (ss.drop i) ∧ (chk ss = 0 → ∀ r ∈ ss.drop i, y0 < r.y) ∧ (rws ss)[q]? = some g ∧ g ≠ [] ∧ (∀ r ∈ g, r.y = y) ∧ v0.heap.size + 4 ≤ gb ∧ gb < X.heap.size ∧ Runs X (some ⟨gb, 0, none⟩) g ∧ a' = { tmps := #[.slice A n c, undef, .pointer (some ⟨w.heap.size, 0, none⟩), .pointer (some ⟨v0.heap.size, 0, none⟩), .pointer (some ⟨v0.heap.size + 1, 0, none⟩), .pointer (some ⟨v0.heap.size + 2, 0, none⟩), .int .i64 y, .slice (some ⟨gb, 0, none⟩) g.length cg, undef, .bool true, .bool false, .slice A n c, .int .i64 (chk ss), .bool V, .slice A n c, .func (.func 58) #[] #[.pointer (some ⟨v0.heap.size + 3, 0, none⟩)], .int .i64 y, .slice (some ⟨gb, 0, none⟩) g.length cg, undef, undef, undef, undef, undef, undef, undef, undef, undef, undef, undef, undef, undef, undef, undef, undef, undef, undef, undef, undef, undef, undef, undef, undef, undef, undef, undef, undef, undef, undef, undef, undef, undef, undef, undef, undef, undef, undef, undef, undef, undef, undef, undef, undef], defers := [] })
    (fun q M v a' X l o o' h hl ho e1 e2 => by
      obtain ⟨vl, i, y0, g, y, gb, cg, h0, h1, h2, h3, h4, h5, h6, g1, g2, g3, g4, g5, g6, g7⟩ := h
      exact ⟨vl, i, y0, g, y, gb, cg, h0, h1.put hs2 o' (by omega) ho e1 e2, h2.putE o' ho e1, h3.putE o' ho e1, h4, h5, h6, g1, g2, g3, g4, by simpa [World.putObj] using g5, g6.putE o' ho e1, g7⟩)
    ?assign ?body ?done ?stop
  case assign =>
    clear HC0 HRX
    rintro l q M v X K ⟨vl, i, y0, h0, h1, h2, h3, h4, h5, h6, -⟩ hM ⟨g, y, gb, cg, g1, rfl, g2, g3, g4, g5, g6⟩ hk hK
    gi_wp2
    exact hK _ _ (others_ofE (Below.refl _ X)) (Kept.refl _ X) ⟨vl, i, y0, g, y, gb, cg, h0, h1, h2, h3, h4, h5, h6, g1, g2, g3, g4, g5, g6, rfl⟩
  case body =>
    clear HC0 HRX
    rintro l q M v a' X ⟨vl, i, y0, g, y, gb, cg, rfl, h1, h2, h3, h4, h5, h6, g1, g2, g3, g4, g5, g6, rfl⟩ hk
    have hc : chk ss = 0 := by
      rcases Decidable.em (chk ss = 0) with h | h
      · exact h
      · have : rowsN ss = 0 := if_neg h
        omega
    have hVt : V = true := by rw [HVV.out, hc]; rfl
    subst hVt
    obtain ⟨hql, hqe⟩ := List.getElem?_eq_some_iff.1 g1
    have hin : i < ss.length := by
      rcases Nat.lt_or_ge i ss.length with k | k
      · exact k
      · rw [List.drop_eq_nil_of_le k, rws_nil] at h5
        have := congrArg List.length h5
        rw [List.length_drop] at this
        simp at this
        omega
    obtain ⟨r, hr⟩ : ∃ r, ss[i]? = some r := ⟨_, List.getElem?_eq_getElem hin⟩
    obtain ⟨-, e2, e3⟩ := drop_consL (h5.trans (rws_at hr))
    rw [g1] at e2
    have hg : g = rowOf r.y (ss.drop i) := Option.some.inj e2
    have hmem : r ∈ ss.drop i := List.mem_of_getElem? (i := 0) (by rw [List.getElem?_drop]; exact hr)
    have hry : r.y = y := by
      obtain ⟨s, t, hst⟩ : ∃ s t, g = s :: t := by
        cases g with
        | nil => exact absurd rfl g2
        | cons s t => exact ⟨s, t, rfl⟩
      have m : s ∈ g := by rw [hst]; simp
      have a1 := g3 s m
      have a2 := rowOf_y s (hg ▸ m)
      omega
    have hup := rows_up hc hr
    rw [← hg, hry] at hup
    rw [← hg] at e3
    have hlt0 : y0 < y := by rw [← hry]; exact h6 hc r hmem
    have hgle : g.length ≤ n - i := by rw [hg]; have := rowOf_le r.y (ss.drop i); rw [List.length_drop, ← HN.out] at this; exact this
    have hg0 : 0 < g.length := by
      cases g with
      | nil => exact absurd rfl g2
      | cons s t => simp
    have htk : ss.take (i + g.length) = ss.take i ++ g := by
      have := rowOf_take r.y (ss.drop i)
      rw [← hg] at this
      rw [List.take_add, ← this]
    have hnb : n ≤ 1000000000 := by rw [HN.out]; exact chk_len hc
    have HUP := hid hup
    have HE3 := hid e3
    have HTK := hid htk
    have HC := hid h1
    have HOW := hid h2
    have HRR := hid h3
    have HG := hid g6
    have HGY := hid g3
    have HGB := hid g4
    have HCC := hid hc
    have hin' : i < n := by rw [HN.out]; exact hin
    have q3 := h1.va.cell 0
    have q5 := h1.la.cell 0
    have f5 := h1.la.free 0
    simp only [List.getElem?_toArray, List.getElem?_cons_zero] at q3 q5
    have b1 : decide (y ≤ y0) = false := decide_eq_false (by omega)
    have b2 : ((g.length : Int) == 0) = false := by
      rw [beq_eq_false_iff_ne]; omega
    have b3 : ¬ (y ≤ y0) := by omega
    clear h1 h2 h3 h5 h6 g1 g2 g3 g6 hc hr e2 hg hmem hry hup e3 htk hin hqe hk HVV hV'
    gi_upto_region 12 with fail
    have HC2 := hid (HC.out.setY hs2 y)
    have HO2 := hid (KeepsOthers.setCell X ⟨v0.heap.size + 2, 0, none⟩ (.int .i64 y))
    have HK2 := hid (Kept.set (M := fun z => z < v0.heap.size + 4 ∨ Value.ownBlock vl = some z) (A := X) (p := ⟨v0.heap.size + 2, 0, none⟩) (.inl (by show v0.heap.size + 2 < v0.heap.size + 4; omega)) (.int .i64 y))
    have HG2 := hid (HG.out.setE (b := v0.heap.size + 2) (by have := HGB.out; omega) (.int .i64 y))
    have HOW2 := hid (show OwnR (X.setCell ⟨v0.heap.size + 2, 0, none⟩ (.int .i64 y)) (v0.heap.size + 4) vl (ss.take i) from HOW.out.keep fun k hk => Below.heap_setCell _ _ _ _ (by have := (HOW.out.ge k hk).1; show k ≠ v0.heap.size + 2; omega))
    have HSZ := hid (show (X.setCell ⟨v0.heap.size + 2, 0, none⟩ (.int .i64 y)).heap.size = X.heap.size from World.size_setCell ..)
    clear q3 q5 f5 b1 b2 b3 HG HC HOW
    generalize X.setCell ⟨v0.heap.size + 2, 0, none⟩ (.int .i64 y) = X2 at HC2 HO2 HK2 HG2 HOW2 HSZ ⊢
    gi_wp2
    gi_loopw [33] (fun s33 wr => ∃ (j : Nat), j ≤ g.length ∧ s33 = .int .i64 j ∧ Hid (wr = X2)) (fun s33 _ => g.length - (intOf s33).toNat)
    case atStart => exact ⟨0, Nat.zero_le _, rfl, hid rfl⟩
    case round =>
      obtain ⟨j, hj, rfl, HW⟩ := hrel
      obtain rfl := HW.out
      by_cases hlt : j < g.length
      · obtain ⟨a2, ha2, hal, hsr⟩ := HG2.out.at_ hlt
        cases ha2
        have hgy : g[j].y = y := HGY.out _ (List.getElem_mem hlt)
        obtain ⟨c0, -, -⟩ := hsr
        rw [hgy, show (⟨gb, 0, none⟩ : Addr).add (j * 3) = ⟨gb, j * 3, none⟩ from by unfold Addr.add; split <;> simp_all] at c0
        have hji : (j : Int) < (g.length : Int) := by omega
        have hj0 : (0 : Int) ≤ (j : Int) := Int.natCast_nonneg _
        have hjb : (j : Int) ≤ 1000000000 := by omega
        clear hgy
        gi_wp2
        go_roundw
        case rel => exact ⟨j + 1, by omega, by go_num, hid trivial⟩
        case measure => simp [intOf]; omega
      · obtain rfl : j = g.length := by omega
        gi_upto_region 18 with fail
        obtain ⟨v', w9, g1, g2, g3⟩ := append_runs (c := cg) HC2.out.z HOW2.out rfl HG2.out (by rw [List.length_take]; omega)
        have H1 := hid g1
        have HC9 := hid (HC2.out.grown hs2 g3.g (fun r e => (HOW2.out.ge r e).1))
        rw [← HTK.out] at g2
        obtain ⟨A9, c9, hv9, -⟩ := g2.is
        have HAL := hid (HC2.out.al.cell 0)
        have HL9 := hid (HC9.out.al.cell 0)
        have HF9 := hid (HC9.out.al.free 0)
        have HV9 := hid hv9
        refine wpIn_region_lit ?_
        refine sqI_start (n := 62) rfl fun a0 hs0 => ?_
        have ha0 := (((((hs0.pin 2 (v := .pointer (some (⟨w.heap.size, 0, none⟩))) rfl).pin 3 (v := .pointer (some (⟨v0.heap.size, 0, none⟩))) rfl).pin 4 (v := .pointer (some (⟨v0.heap.size + 1, 0, none⟩))) rfl).pin 5 (v := .pointer (some (⟨v0.heap.size + 2, 0, none⟩))) rfl).pin 7 (v := .slice (some ⟨gb, 0, none⟩) g.length cg) rfl)
        clear hs0
        generalize (fun i => Array.getD _ i undef) = g0 at ha0
        refine sqI_val (fun _ h => nomatch h) (v := vl) ha0 rfl (run_loadRs rfl HAL.out) fun a1 ha1 => ?_
        refine sqI_val (fun _ h => nomatch h) (v := .slice (some ⟨gb, 0, none⟩) g.length cg) ha1 rfl (rfl) fun a2 ha2 => ?_
        refine sqI_val (fun _ h => nomatch h) (v := v') ha2 rfl (run_append rfl rfl (H1.out _)) fun a3 ha3 => ?_
        refine sqI_skip (fun _ h => nomatch h) ha3 (run_storeRs rfl HV9.out HL9.out HF9.out) fun a4 ha4 => ?_
        refine wpListIn_end ?_
        have HOW9 := hid (show OwnR (w9.setCell ⟨v0.heap.size + 1, 0, none⟩ (.slice A9 (ss.take (i + g.length)).length c9)) (v0.heap.size + 4) (.slice A9 (ss.take (i + g.length)).length c9) (ss.take (i + g.length)) by
          rw [← HV9.out]
          exact g2.keep fun k hk => Below.heap_setCell _ _ _ _ (by have := (g2.ge k hk).1; show k ≠ v0.heap.size + 1; omega))
        have hko : KeepsOthers wr w9 := KeepsOthers.of_grownBy g3.g (fun r o e ho => by
          rcases HOW2.out.2 with ⟨e1, -⟩ | ⟨g, cap, cur, e1, -, hh, -⟩
          · rw [e1] at e; cases e
          · rw [e1] at e
            cases e
            rw [hh] at ho
            cases ho
            rfl)
        have hkp : Kept (fun z => z < v0.heap.size + 4 ∨ Value.ownBlock vl = some z) wr w9 := Kept.grown g3.g (fun r e => .inr e)
        have hfin := HC9.out.setL hs2 (.slice A9 (ss.take (i + g.length)).length c9)
        exact ⟨(HO2.out.trans hko).trans (KeepsOthers.setCell _ _ _), (fun z => z < v0.heap.size + 4 ∨ (Value.slice A9 (ss.take (i + g.length)).length c9).ownBlock = some z), ⟨_, i + g.length, y, rfl, hfin, HOW9.out, HS.out.next hfin.gb, by omega, HE3.out, fun _ => HUP.out, fun h => absurd h (Nat.succ_ne_zero q)⟩,
          fun z hz => hz.elim (fun h => Nat.lt_of_lt_of_le h hfin.z) (fun e => (HOW9.out.ge z e).2),
          fun z hz => hz.elim (fun h => .inl (.inl h)) (fun e => by
            rw [← HV9.out] at e
            rcases g3.o z e with h | h
            · exact .inl (.inr h)
            · exact .inr (by rw [HSZ.out] at h; exact h)),
          (HK2.out.trans hkp).trans (Kept.set (p := ⟨v0.heap.size + 1, 0, none⟩) (.inl (by show v0.heap.size + 1 < v0.heap.size + 4; omega)) _)⟩
  case done =>
    rintro D M X2 hD ⟨vl, i, y0, -, h1, h2, h3, h4, h5, -, h7⟩ hK
    have HC1 := hid h1
    have HOW := hid h2
    have HK := hid hK
    have HR1 := hid h3
    obtain ⟨Al, cl, hvl, hrl⟩ := h2.is
    have q0 := h1.o.cell 0
    have f0 := h1.o.free 0
    have q3 := h1.va.cell 0
    have q4 := h1.al.cell 0
    simp only [List.getElem?_toArray, List.getElem?_cons_zero] at q0 q3 q4
    clear HC0 HRX h1 h2 h3 hK
    rcases Decidable.em (chk ss = 0) with hc | hc
    · have hVt : V = true := by rw [HVV.out, hc]; rfl
      subst hVt
      rw [show rowsN ss = (rws ss).length from if_pos hc, List.drop_length] at h5
      have hin : i = n := by
        rcases Nat.lt_or_ge i ss.length with k | k
        · rw [rws_at (List.getElem?_eq_getElem k)] at h5
          cases h5
        · have := HN.out; omega
      subst hin
      rw [List.take_of_length_le (by have := HN.out; omega)] at hvl hrl
      rw [hvl] at q4
      have HRL := hid hrl
      have hrm : ss.length ≤ maxLen := by rw [← HN.out]; exact hm
      clear h5 hrl hvl h7 hV'
      gi_wp2
      refine ⟨trivial, ?_⟩
      refine (callsIn_wide.2 (same_any Al A ss.length cl i c ss ss X2 rfl HN.out hrm hm HRL.out HR1.out)).mono ?_
      rintro e w5 ⟨rfl, hb5⟩
      rw [show decide (ss = ss) = true from decide_eq_true rfl]
      have HC5 := hid (HC1.out.next hb5)
      have HK5 := hid ((hb5.block D (Array.getElem?_eq_some_iff.1 HK.out).1).trans HK.out)
      clear q0 f0 q3 q4
      have q0 := HC5.out.o.cell 0
      have f0 := HC5.out.o.free 0
      simp only [List.getElem?_toArray, List.getElem?_cons_zero] at q0
      clear hb5
      gi_wp2
      exact rio_end (HC5.out.setO hs2 true) (by omega) hs2 ((KeepsOthers.setCell w5 ⟨w.heap.size, 0, none⟩ (.bool true)).same D _ HK5.out rfl) rfl
    · have hVt : V = false := by rw [HVV.out]; simpa using hc
      subst hVt
      obtain rfl := h7 (show rowsN ss = 0 from if_neg hc)
      rw [List.take_zero, List.length_nil] at hvl
      rw [hvl] at q4
      clear h5 hrl hvl h7 hV' hc
      gi_wp2
      case h_1.isTrue => rename_i hx _; exact absurd hx (by simp [undef])
      case h_1.isFalse => rename_i hx _; exact absurd hx (by simp [undef])
      refine ⟨trivial, ?_⟩
      gi_wp2
      exact rio_end (HC1.out.setO hs2 true) (by omega) hs2 ((KeepsOthers.setCell X2 ⟨w.heap.size, 0, none⟩ (.bool true)).same D _ HK.out rfl) rfl
  case stop =>
    rintro D cd q X2 hD hj h hK
    exact h.elim
end Go.Proofs.Ytldbpabnfjnpbaa
