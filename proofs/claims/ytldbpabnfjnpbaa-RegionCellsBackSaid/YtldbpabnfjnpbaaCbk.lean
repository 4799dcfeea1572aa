/- The law that goes over the cells of a region and builds it again. -/
import Derived.Test.YtldbpabnfjnpbaaCel
import Derived.Test.YtldbpabnfjnpbaaSqI
import Derived.Test.YtldbpabnfjnpbaaRev
import Derived.Test.YtldbpabnfjnpbaaNear
import Derived.Test.YtldbpabnfjnpbaaUni
import Derived.Sort.CutIn
namespace Go.Proofs.Ytldbpabnfjnpbaa
open Go Go.RowKit Go.Shelf
attribute [local go_sem] Oper.semAt_some
set_option linter.unusedVariables false
set_option linter.unusedSimpArgs false

/-- The boxes of the law. -/
structure Cbk (w : World) (v : Nat) (A : Option Addr) (n c : Nat) (vl : Value) (b : Bool) (X : World) : Prop where
  gb : Below w.heap.size w X
  z : v + 2 ≤ X.heap.size
  o : Var X w.heap.size #[.bool b] 4
  l : Var X v #[vl] 26
  gc : Var X (v + 1) #[.slice A n c] 22
section
variable {w X Y : World} {v : Nat} {A : Option Addr} {n c : Nat} {vl : Value} {b : Bool}
theorem Cbk.next (h : Cbk w v A n c vl b X) (hb : Below X.heap.size X Y) : Cbk w v A n c vl b Y :=
  ⟨below_next h.gb hb, Nat.le_trans h.z hb.size, h.o.next hb, h.l.next hb, h.gc.next hb⟩
theorem Cbk.put (h : Cbk w v A n c vl b X) (hw : w.heap.size + 1 ≤ v) {l : Nat} {o : Obj} (o' : Obj) (hl : v + 2 ≤ l) (ho : X.heap[l]? = some o) (h1 : o.isCells = false) (h2 : o.isWalk = false) : Cbk w v A n c vl b (X.putObj l o') :=
  ⟨h.gb.trans (belowK_b (w := w) (Nat.le_refl _) X l o o' (by omega) ho h1 h2), by simpa [World.putObj] using h.z, h.o.keep (World.putObj_heap_other (by omega)), h.l.keep (World.putObj_heap_other (by omega)), h.gc.keep (World.putObj_heap_other (by omega))⟩
theorem Cbk.setO (h : Cbk w v A n c vl b X) (hw : w.heap.size + 1 ≤ v) (u : Bool) : Cbk w v A n c vl u (X.setCell ⟨w.heap.size, 0, none⟩ (.bool u)) :=
  ⟨h.gb.setCell (p := ⟨w.heap.size, 0, none⟩) (Nat.le_refl _) _, by rw [World.size_setCell]; exact h.z, h.o.set _, h.l.far (by show v ≠ w.heap.size; omega) _, h.gc.far (by show v + 1 ≠ w.heap.size; omega) _⟩
theorem Cbk.setL (h : Cbk w v A n c vl b X) (hw : w.heap.size + 1 ≤ v) (u : Value) : Cbk w v A n c u b (X.setCell ⟨v, 0, none⟩ u) :=
  ⟨h.gb.setCell (p := ⟨v, 0, none⟩) (by show w.heap.size ≤ v; omega) _, by rw [World.size_setCell]; exact h.z, h.o.far (by show w.heap.size ≠ v; omega) _, h.l.set _, h.gc.far (by show v + 1 ≠ v; omega) _⟩
/-- What a round changes alone: it keeps the boxes, but for the row. -/
theorem Cbk.grown (h : Cbk w v A n c vl b X) (hw : w.heap.size + 1 ≤ v) {row : Option Nat} (hg : X.grownBy Y row) (hr : ∀ r, row = some r → v + 2 ≤ r) : Cbk w v A n c vl b Y := by
  have far : ∀ k, k < v + 2 → Y.heap[k]? = X.heap[k]? := fun k hk => hg.block k (by have := h.z; omega) (fun e => by have := hr k e.symm; omega)
  exact ⟨h.gb.grown hg h.gb.size (fun k e => by have := hr k e; omega), Nat.le_trans h.z hg.size, h.o.keep (far _ (by omega)), h.l.keep (far _ (by omega)), h.gc.keep (far _ (by omega))⟩
end
theorem Runs.putB {A : World} {A' : Option Addr} {xs : List Rn} (h : Runs A A' xs) {l : Nat} {o : Obj} (o' : Obj) (ho : A.heap[l]? = some o) (h1 : o.isCells = false) : Runs (A.putObj l o') A' xs := fun hn => by
  obtain ⟨a, e, hl, hr⟩ := h hn
  refine ⟨a, e, by simpa [World.putObj] using hl, fun i s hi => ?_⟩
  obtain ⟨c0, c1, c2⟩ := hr i s hi
  have kept : ∀ {p : Addr} {v : Value}, A.cell? p = some v → (A.putObj l o').cell? p = some v := fun hc => cell_kept hc (grownBy_putObj' A l o') (fun r e => by cases e; exact ⟨_, ho, h1⟩)
  exact ⟨kept c0, kept c1, kept c2⟩
theorem OwnP.put {A : World} {B : Nat} {v : Value} {xs : List P2} (h : OwnP A B v xs) {l : Nat} {o : Obj} (o' : Obj) (ho : A.heap[l]? = some o) (h1 : o.isCells = false) : OwnP (A.putObj l o') B v xs := by
  rcases h.2 with ⟨e1, e2⟩ | ⟨g, cap, cur, hv, hB, hh, hr⟩
  · exact ⟨h.1, .inl ⟨e1, e2⟩⟩
  · refine ⟨h.1, .inr ⟨g, cap, cur, hv, hB, (World.putObj_heap_other (fun e => ?_)).trans hh, hr⟩⟩
    subst e
    rw [hh] at ho
    cases ho
    cases h1
theorem others_ofC {A B : World} (h : Below A.heap.size A B) : KeepsOthers A B := ⟨h.size, fun k o hk _ => (h.block k (Array.getElem?_eq_some_iff.1 hk).1).trans hk⟩
theorem run_loadPts {ρ : Operand → Value} {dst : Option Tmp} {ty : TypeId} {pos : String} {af : Array Edge} {x : Operand} {w : World} {gd : Option (Nat × Bool)} {a : Addr} {v : Value} (hx : ρ x = .pointer (some a)) (hV : w.cell? a = some v) :
    (execOp ρ { dst := dst, op := .load 26 x, type := ty, pos := pos, after := af, guard := gd }).run Try.prog w = .ok (.value v) w := by
  go_simp
theorem run_storePts {ρ : Operand → Value} {x y : Operand} {t : TypeId} {pos : String} {af : Array Edge} {w : World} {gd : Option (Nat × Bool)} {B j k c : Nat} {A : Option Addr} {u : Value} (hp : ρ x = .pointer (some ⟨B, j, none⟩)) (hq : ρ y = .slice A k c)
    (hc : w.cell? ⟨B, j, none⟩ = some u) (hf : w.frozen? ⟨B, j, none⟩ = false) :
    (execOp ρ { dst := none, op := .store 26 x y, type := t, pos := pos, after := af, guard := gd }).run Try.prog w = .ok .skip (w.setCell ⟨B, j, none⟩ (.slice A k c)) := by
  go_simp
/-- The law's result, behind the loop. -/
theorem cbk_end {w X : World} {v : Nat} {A : Option Addr} {n c : Nat} {vl : Value} {D : Nat} {tmps : Array Value} (h : Cbk w v A n c vl true X) (hd : v + 2 ≤ D) (hw : w.heap.size + 1 ≤ v) (hK : X.heap[D]? = some (.deferred (some []))) (ht : tmps.getD 2 undef = .pointer (some ⟨w.heap.size, 0, none⟩)) :
    bodyPostM Fence.wide 6 Try.prog Try.f3 (fun e w' => e = .returned (.bool true) ∧ Below w.heap.size w w') .ret { tmps := tmps, defers := [{ target := .collected D, args := #[] }] } X := by
  refine ⟨by simp, .inl ⟨_, _, rfl, run_takeDeferred hK, ?_⟩⟩
  have hc := cell_kept (h.o.cell 0) (grownBy_putObj' _ D (.deferred none)) (fun r e => by cases e; exact ⟨_, hK, rfl⟩)
  refine ⟨.bool true, ?_, rfl, h.gb.trans (belowK_b (w := w) (Nat.le_refl _) _ D _ _ (by omega) hK rfl rfl)⟩
  simp only [Array.getD_eq_getD_getElem?] at ht
  simp [results, Try.f3, go_sem, hc, ht]

theorem cbk_early {w X : World} {tmps : Array Value} (hx : X.cell? ⟨w.heap.size, 0, none⟩ = some (.bool true)) (hb : Below w.heap.size w X) (ht : tmps.getD 2 undef = .pointer (some ⟨w.heap.size, 0, none⟩)) :
    bodyPostM Fence.wide 6 Try.prog Try.f3 (fun e w' => e = .returned (.bool true) ∧ Below w.heap.size w w') .ret { tmps := tmps, defers := [] } X := by
  refine ⟨.bool true, ?_, rfl, hb⟩
  simp only [Array.getD_eq_getD_getElem?] at ht
  simp [results, Try.f3, go_sem, hx, ht]

theorem made_cells {ss : List Rn} (h : chk ss = 0) : Made (cellsL ss).reverse ss := by
  refine ⟨h, fun x y => ?_⟩
  rw [Bool.eq_iff_iff, has_iff, decide_eq_true_eq, List.mem_reverse]
  unfold cellsL cellsOf
  rw [List.mem_flatMap]
  constructor
  · rintro ⟨r, hr, e1, e2, e3⟩
    refine ⟨r, hr, List.mem_map.2 ⟨(x - r.a).toNat, List.mem_range.2 (by omega), ?_⟩⟩
    exact P2.ext' ⟨by show r.a + ((x - r.a).toNat : Int) = x; omega, e1⟩
  · rintro ⟨r, hr, hm⟩
    obtain ⟨i, hi, e⟩ := List.mem_map.1 hm
    have hi := List.mem_range.1 hi
    cases e
    exact ⟨r, hr, rfl, by omega, by omega⟩
theorem cells_in {ss : List Rn} (h : chk ss = 0) : ∀ p ∈ cellsL ss, PIn p := fun p hp => by
  unfold cellsL cellsOf at hp
  obtain ⟨r, hr, hm⟩ := List.mem_flatMap.1 hp
  obtain ⟨i, hi, e⟩ := List.mem_map.1 hm
  have hi := List.mem_range.1 hi
  have h1 := (chk_all h).1 r hr
  obtain ⟨⟨⟨y1, y2⟩, ⟨a1, a2⟩, b1, b2⟩, ab⟩ := (show ((-8192 ≤ r.y ∧ r.y ≤ 8191) ∧ (-8192 ≤ r.a ∧ r.a ≤ 8192) ∧ (-8192 ≤ r.b ∧ r.b ≤ 8192)) ∧ r.a < r.b from h1)
  cases e
  unfold PIn
  simp only
  omega

set_option maxRecDepth 100000 in
set_option maxHeartbeats 4000000 in
theorem cbk_any (A : Option Addr) (n c : Nat) (ss : List Rn) (w : World) (hn : n = ss.length) (hs : Runs w A ss) (hm : n ≤ maxLen) :
    Calls Try.prog 3 #[.slice A n c] w fun e w' => e = .returned (.bool true) ∧ Below w.heap.size w w' := by
  have HS := hid hs
  have HN := hid hn
  clear hs hn
  refine (callsIn_wide (n := 6)).1 ?_
  refine callsIn_of_wp_marks Try.func3 rfl trivial ?_ rfl
  simp only [Try.ntmps3, List.size_toArray, List.length_cons, List.length_nil, Nat.reduceAdd, Nat.reduceSub, Array.replicate_succ, Array.replicate_zero, List.push_toArray, List.append_toArray, List.nil_append, List.cons_append]
  gi_wp2
  refine ⟨trivial, ?_⟩
  refine (callsIn_wide.2 (unites_any _)).mono ?_
  rintro e w1 ⟨rfl, hb1⟩
  have HB1 := hid (below_next (below_alloc (Below.refl w.heap.size w) _) hb1)
  have HV0 := hid ((Var.new w #[.bool false] 4 _ rfl).next hb1)
  have hs1 : w.heap.size + 1 ≤ w1.heap.size := by have := hb1.size; simp at this; exact this
  clear hb1
  gi_wp2
  refine ⟨trivial, ?_⟩
  refine (callsIn_wide.2 (check_any A ss n c _ HN.out hm (HS.out.next HB1.out))).mono ?_
  rintro e v0 ⟨rfl, hb2⟩
  have HB2 := hid (below_next HB1.out hb2)
  have hs2 : w.heap.size + 1 ≤ v0.heap.size := by have := hb2.size; omega
  have HA0 := hid (HV0.out.next hb2)
  clear hb2 HV0 HB1
  have t0 : w.heap.size < v0.heap.size := by omega
  have q0 := HA0.out.cell 0
  have f0 := HA0.out.free 0
  simp only [List.getElem?_toArray, List.getElem?_cons_zero] at q0
  by_cases hc : chk ss = 0
  · have HC := hid hc
    rw [hc]
    clear hc
    by_cases h40 : 40 < n
    · have h1 : decide ((40 : Int) < (n : Int)) = true := decide_eq_true (by omega)
      gi_wp2
      exact cbk_early ((HA0.out.set (i := 0) (.bool true)).cell 0) (HB2.out.setCell (p := ⟨w.heap.size, 0, none⟩) (Nat.le_refl _) _) rfl
    · have h1 : decide ((40 : Int) < (n : Int)) = false := decide_eq_false (by omega)
      clear h40
      gi_wp2
      refine ⟨trivial, ?_⟩
      refine (callsIn_wide.2 (cells_make _ _ _ _)).mono ?_
      rintro e X ⟨rfl, hX⟩
      rw [show (v0.alloc (.cells #[.slice none 0 0] 26)).heap.size = v0.heap.size + 1 from by simp]
      have sX : X.heap.size = v0.heap.size + 2 := by rw [hX]; simp
      have HC0 : Hid (Cbk w v0.heap.size A n c (.slice none 0 0) false X) := hid (by
        rw [hX]
        refine ⟨below_alloc (below_alloc HB2.out _) _, by simp, (HA0.out.alloc _).alloc _, (Var.new _ _ _ _ rfl).alloc _, Var.new _ _ _ _ (by simp)⟩)
      have HRX := hid (HS.out.next HC0.out.gb)
      have HCN := hid (show cellsN ss = (cellsL ss).length from if_pos HC.out)
      clear hX HA0 HB2 q0 f0
      gi_wp2
      refine range_all (gf := 50) (lb := #[.pointer (some ⟨v0.heap.size + 1, 0, none⟩)]) rfl (by omega) rfl trivial (enters_of Try.func50 (by kernel_rfl) rfl) (CellAt ss) (cellsN ss)
        (fun q M X => q ≤ 20001 ∧ ∃ vl, M = (fun z => z < v0.heap.size + 2 ∨ vl.ownBlock = some z) ∧ Cbk w v0.heap.size A n c vl false X ∧ OwnP X (v0.heap.size + 2) vl ((cellsL ss).take q) ∧ Runs X A ss)
        (fun cd q X => cd = .ret ∧ ∃ vl, Cbk w v0.heap.size A n c vl true X)
        (cells_iter 5 (by omega) (v0.heap.size + 1) A ss n c _ HN.out hm (fun q M X h => by obtain ⟨-, vl, -, h1, -, h2⟩ := h; exact ⟨h1.gc.cell 0, h2⟩)) (fun q v X h => by obtain ⟨p, -, rfl⟩ := h; rfl)
        (fun q M X Y h hb => by obtain ⟨hq, vl, h0, h1, h2, h3⟩ := h; exact ⟨hq, vl, h0, h1.next hb, h2.next hb, h3.next hb⟩)
        (fun q M X l o o' h hl ho e1 e2 => by obtain ⟨hq, vl, h0, h1, h2, h3⟩ := h; exact ⟨hq, vl, h0, h1.put hs2 o' (by omega) ho e1 e2, h2.put o' ho e1, h3.putB o' ho e1⟩)
        (fun cd q X l o o' h hl ho e1 e2 => by obtain ⟨h0, vl, h1⟩ := h; exact ⟨h0, vl, h1.put hs2 o' (by omega) ho e1 e2⟩)
        (fun z => z < v0.heap.size + 2 ∨ (Value.slice none 0 0).ownBlock = some z) (fun q h => by rw [sX]; exact h.elim id (fun e => by cases e)) ⟨by omega, .slice none 0 0, rfl, HC0.out, OwnP.nil _ _, HRX.out⟩
        (fun q M v a' X => q ≤ 20001 ∧ ∃ vl B p, M = (fun z => z < v0.heap.size + 2 ∨ vl.ownBlock = some z) ∧ Cbk w v0.heap.size A n c vl false X ∧ OwnP X (v0.heap.size + 2) vl ((cellsL ss).take q) ∧ Runs X A ss ∧ (cellsL ss)[q]? = some p ∧ Var X B (pcel p) 31 ∧ vl.ownBlock ≠ some B ∧ v0.heap.size + 2 ≤ B ∧ a' = { tmps := #[.slice A n c, undef, .pointer (some ⟨w.heap.size, 0, none⟩), .pointer (some ⟨v0.heap.size, 0, none⟩), .pointer (some ⟨B, 0, none⟩), undef, undef, .bool true, .bool false, .slice A n c, .int .i64 0, .bool false, .bool false, .slice A n c, .int .i64 n, .bool false, .bool false, .slice A n c, .func (.func 50) #[] #[.pointer (some ⟨v0.heap.size + 1, 0, none⟩)], ptv p, undef, undef, undef, undef, undef, undef, undef, undef, undef, undef, undef, undef, undef, undef, undef, undef, undef, undef, undef, undef, undef], defers := [] })
        (fun q M v a' X l o o' h hl ho e1 e2 => by
          obtain ⟨hq, vl, B, p, h0, h1, h2, h3, h4, h5, h6⟩ := h
          exact ⟨hq, vl, B, p, h0, h1.put hs2 o' (by omega) ho e1 e2, h2.put o' ho e1, h3.putB o' ho e1, h4, h5.keep (World.putObj_heap_other (fun e => by subst e; have h7 := h5; unfold Var at h7; rw [ho] at h7; cases h7; cases e1)), h6⟩)
        ?assign ?body ?done ?stop
      case assign =>
        clear HC0 HRX
        rintro l q M v X K ⟨hq, vl, h0, h1, h2, h3⟩ hM ⟨p, hp, rfl⟩ hk hK
        gi_wp2
        exact hK _ _ (KeepsOthers.alloc _ _) (Kept.below ((Below.refl _ X).alloc (Nat.le_refl _) _)) ⟨hq, vl, X.heap.size, p, h0, h1.next ((Below.refl _ X).alloc (Nat.le_refl _) _), h2.next ((Below.refl _ X).alloc (Nat.le_refl _) _), h3.next ((Below.refl _ X).alloc (Nat.le_refl _) _), hp, Var.new _ _ _ _ rfl, fun e => by have := (h2.ge _ e).2; omega, h1.z, rfl⟩
      case body =>
        clear HC0 HRX
        rintro l q M v a' X ⟨hq, vl, B, p, rfl, h1, h2, h3, h4, h5, h6, h7, rfl⟩ hk
        have HC := hid h1
        have HOW := hid h2
        have HRR := hid h3
        have HPV := hid h5
        have H4 := hid h4
        obtain ⟨hql, hqe⟩ := List.getElem?_eq_some_iff.1 h4
        obtain ⟨Ag, cg, hvl, -⟩ := h2.is
        have hlen : ((cellsL ss).take q).length = q := by rw [List.length_take]; omega
        rw [hlen] at hvl
        have HVL := hid hvl
        have q3 := h1.l.cell 0
        have q0 := h1.o.cell 0
        have f0 := h1.o.free 0
        simp only [List.getElem?_toArray, List.getElem?_cons_zero] at q0 q3
        rw [hvl] at q3
        clear hvl h1 h2 h3 h4 h5
        by_cases hbig : 20000 < q
        · have hb1 : decide ((20000 : Int) < (q : Int)) = true := decide_eq_true (by omega)
          gi_wp2
          exact ⟨KeepsOthers.setCell _ _ _, rfl, vl, HC.out.setO hs2 true⟩
        · have hb1 : decide ((20000 : Int) < (q : Int)) = false := decide_eq_false (by omega)
          gi_upto_region 10 with fail
          clear q3 q0 f0
          obtain ⟨v', w9, g1, g2, g3⟩ := append_pt (ty := 26) (s := p) HC.out.z HOW.out (by rw [hlen]; omega)
          have H1 := hid g1
          have HC9 := hid (HC.out.grown hs2 g3.g (fun r e => (HOW.out.ge r e).1))
          obtain ⟨A9, c9, hv9, -⟩ := g2.is
          have HL9 := hid (HC9.out.l.cell 0)
          have HF9 := hid (HC9.out.l.free 0)
          rw [List.length_append, hlen, List.length_singleton] at hv9
          have HV9 := hid hv9
          refine wpIn_region_lit ?_
          refine sqI_start (n := 41) rfl fun a0 hs0 => ?_
          have ha0 := (((hs0.pin 2 (v := .pointer (some (⟨w.heap.size, 0, none⟩))) rfl).pin 3 (v := .pointer (some (⟨v0.heap.size, 0, none⟩))) rfl).pin 4 (v := .pointer (some (⟨B, 0, none⟩))) rfl)
          clear hs0
          generalize (fun i => Array.getD _ i undef) = g0 at ha0
          refine sqI_val (fun _ h => nomatch h) (v := vl) ha0 rfl (run_loadPts rfl (HC.out.l.cell 0)) fun a1 ha1 => ?_
          refine sqI_val (fun _ h => nomatch h) (v := ptv p) ha1 rfl (run_loadPt rfl HPV.out) fun a2 ha2 => ?_
          refine sqI_val (fun _ h => nomatch h) (v := .slice (some ⟨X.heap.size, 0, none⟩) 1 1) ha2 rfl (run_litPt rfl) fun a3 ha3 => ?_
          refine sqI_val (fun _ h => nomatch h) (v := v') ha3 rfl (run_append rfl rfl H1.out) fun a4 ha4 => ?_
          refine sqI_skip (fun _ h => nomatch h) ha4 (run_storePts rfl HV9.out HL9.out HF9.out) fun a5 ha5 => ?_
          refine wpListIn_end ?_
          have HOW9 := hid (show OwnP (w9.setCell ⟨v0.heap.size, 0, none⟩ (.slice A9 (q + 1) c9)) (v0.heap.size + 2) (.slice A9 (q + 1) c9) ((cellsL ss).take (q + 1)) by
            rw [List.take_succ_eq_append_getElem hql, hqe, ← HV9.out]
            exact g2.keep fun k hk => Below.heap_setCell _ _ _ _ (by have := (g2.ge k hk).1; show k ≠ v0.heap.size; omega))
          have hko : KeepsOthers X w9 := KeepsOthers.of_grownBy g3.g (fun r o e ho => by
            rcases HOW.out.2 with ⟨e1, -⟩ | ⟨g, cap, cur, e1, -, hh, -⟩
            · rw [e1] at e; cases e
            · rw [e1] at e
              cases e
              rw [hh] at ho
              cases ho
              rfl)
          have hkp : Kept (fun z => z < v0.heap.size + 2 ∨ vl.ownBlock = some z) X w9 := Kept.grown g3.g (fun r e => .inr e)
          exact ⟨hko.trans (KeepsOthers.setCell _ _ _), (fun z => z < v0.heap.size + 2 ∨ (Value.slice A9 (q + 1) c9).ownBlock = some z), ⟨by omega, .slice A9 (q + 1) c9, rfl, HC9.out.setL hs2 _, HOW9.out, HS.out.next (HC9.out.setL hs2 _).gb⟩,
            fun z hz => hz.elim (fun h => Nat.lt_of_lt_of_le h (HC9.out.setL hs2 _).z) (fun e => (HOW9.out.ge z e).2),
            fun z hz => hz.elim (fun h => .inl (.inl h)) (fun e => by
              rw [← HV9.out] at e
              rcases g3.o z e with h | h
              · exact .inl (.inr h)
              · exact .inr h),
            hkp.trans (Kept.set (p := ⟨v0.heap.size, 0, none⟩) (.inl (by show v0.heap.size < v0.heap.size + 2; omega)) _)⟩
      case done =>
        rintro D M X2 hD ⟨hq, vl, -, h1, h2, -⟩ hK
        rw [HCN.out, List.take_length] at h2
        rw [HCN.out] at hq
        have HC1 := hid h1
        have HOW := hid h2
        have HK := hid hK
        have q3 := h1.l.cell 0
        simp only [List.getElem?_toArray, List.getElem?_cons_zero] at q3
        have hlen : (cellsL ss).length ≤ 5000000000 := by omega
        clear HC0 HRX h1 h2 hK
        gi_wp2
        refine ⟨trivial, ?_⟩
        refine (callsIn_wide.2 (rev_any vl (cellsL ss) (v0.heap.size + 2) X2 HC1.out.z HOW.out hlen)).mono ?_
        rintro e w3 ⟨rfl, Av, cv, hvl, hpts, hb3, hsz, hoth⟩
        have hfar : ∀ k, k < v0.heap.size + 2 → w3.heap[k]? = X2.heap[k]? := fun k hk => hoth k (fun e => by have := (HOW.out.ge k e).1; omega)
        have HC3 := hid (show Cbk w v0.heap.size A n c vl false w3 from ⟨HC1.out.gb.trans (hb3.mono (by omega)), by rw [hsz]; exact HC1.out.z, HC1.out.o.keep (hfar _ (by omega)), HC1.out.l.keep (hfar _ (by omega)), HC1.out.gc.keep (hfar _ (by omega))⟩)
        have HK3 : Hid (w3.heap[D]? = some (.deferred (some []))) := hid ((hoth D (fun e => by
          rcases HOW.out.2 with ⟨e1, -⟩ | ⟨g, cap, cur, e1, -, hh, -⟩
          · rw [e1] at e; cases e
          · rw [e1] at e
            cases e
            have := HK.out
            rw [hh] at this
            cases this)).trans HK.out)
        have HPT := hid hpts
        have q3 := HC3.out.l.cell 0
        simp only [List.getElem?_toArray, List.getElem?_cons_zero] at q3
        rw [hvl] at q3
        clear hpts hb3 hsz hoth hfar HC1 HOW HK
        gi_wp2
        refine ⟨trivial, ?_⟩
        refine (callsIn_wide.2 (of_any Av (cellsL ss).reverse (cellsL ss).length cv w3 (by rw [List.length_reverse]) (by omega) HPT.out)).mono ?_
        rintro e w4 ⟨v4, rs, rfl, ho4, hb4, hl4, hm4, -⟩
        have HE := hid (show ofE (cellsL ss).reverse = 0 from if_pos fun p hp => cells_in HC.out p (List.mem_reverse.1 hp))
        obtain rfl := made_uniq (hm4 HE.out) (made_cells HC.out)
        rw [HE.out]
        obtain ⟨A4, c4, hv4, hr4⟩ := ho4.is
        subst hv4
        have HC4 := hid (HC3.out.next hb4)
        have HK4 := hid ((hb4.block D (Array.getElem?_eq_some_iff.1 HK3.out).1).trans HK3.out)
        have HR4 := hid hr4
        have HS4 := hid (HS.out.next HC4.out.gb)
        have hrm : rs.length ≤ maxLen := by have := chk_len HC.out; unfold maxLen; omega
        rw [← HN.out]
        clear q3 HC3 HK3 HPT ho4 hb4 hl4 hm4 hr4
        gi_wp2
        refine ⟨trivial, ?_⟩
        refine (callsIn_wide.2 (equal_any A4 A n c4 n c rs rs w4 HN.out HN.out hm hm HR4.out HS4.out)).mono ?_
        rintro e w5 ⟨rfl, hb5⟩
        rw [show decide (rs = rs) = true from decide_eq_true rfl]
        have HC5 := hid (HC4.out.next hb5)
        have HK5 := hid ((hb5.block D (Array.getElem?_eq_some_iff.1 HK4.out).1).trans HK4.out)
        have q0 := HC5.out.o.cell 0
        have f0 := HC5.out.o.free 0
        simp only [List.getElem?_toArray, List.getElem?_cons_zero] at q0
        clear hb5
        gi_wp2
        exact cbk_end (HC5.out.setO hs2 true) (by omega) hs2 ((KeepsOthers.setCell w5 ⟨w.heap.size, 0, none⟩ (.bool true)).same D _ HK5.out rfl) rfl
      case stop =>
        rintro D cd q X2 hD hj ⟨rfl, vl, h1⟩ hK
        clear HC0 HRX
        gi_wp2
        exact cbk_end h1 (by omega) hs2 hK rfl
  · have hc' : (chk ss != 0) = true := by simpa using hc
    clear hc
    gi_wp2
    exact cbk_early ((HA0.out.set (i := 0) (.bool true)).cell 0) (HB2.out.setCell (p := ⟨w.heap.size, 0, none⟩) (Nat.le_refl _) _) rfl
end Go.Proofs.Ytldbpabnfjnpbaa
