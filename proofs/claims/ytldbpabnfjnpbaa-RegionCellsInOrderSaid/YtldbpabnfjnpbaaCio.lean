/- The law that goes over the cells of a region. -/
import Derived.Test.YtldbpabnfjnpbaaCel
import Derived.Test.YtldbpabnfjnpbaaQrd
import Derived.Test.YtldbpabnfjnpbaaFanD
import Derived.Deep.RegionHeld3
import Derived.Sort.CutIn
import Derived.Test.YtldbpabnfjnpbaaRArea
import Derived.Test.YtldbpabnfjnpbaaRChk
namespace Go.Proofs.Ytldbpabnfjnpbaa
open Go Go.RowKit Go.Shelf
attribute [local go_sem] Oper.semAt_some
set_option linter.unusedVariables false
set_option linter.unusedSimpArgs false

theorem ite_minC (x y : Int) : (if y < x then y else x) = min x y := by omega
attribute [local go_sem] ite_minC
theorem cutl_val (x lo hi : Int) (w : World) (h : lo ≤ hi) (hn : hi - lo < 4611686018427387904) (hl : -4611686018427387904 ≤ lo) (hh : hi ≤ 4611686018427387904) :
    Calls Try.prog 27 #[.int .i64 x, .int .i64 lo, .int .i64 hi] w fun e w' => ∃ c : Int, lo ≤ c ∧ c ≤ hi ∧ e = .returned (.int .i64 c) ∧ w = w' := by
  have t1 := Int.lt_tmod_of_pos x (show 0 < hi - lo + 1 by omega)
  have t2 := Int.tmod_lt_of_pos x (show 0 < hi - lo + 1 by omega)
  have t3 := Int.emod_nonneg (x.tmod (hi - lo + 1)) (show hi - lo + 1 ≠ 0 by omega)
  have t4 := Int.emod_lt_of_pos (x.tmod (hi - lo + 1)) (show 0 < hi - lo + 1 by omega)
  refine Calls.mono (R := fun e w' => e = .returned (.int .i64 (lo + x.tmod (hi - lo + 1) % (hi - lo + 1))) ∧ w = w') ?_ (fun e w' h => ⟨_, by omega, by omega, h.1, h.2⟩)
  go_enter Try.func27, Try.ntmps27
  go_wp2
  go_ret
  exact ⟨rfl, rfl⟩
theorem bcell {A B : World} (h : Below A.heap.size A B) : (∀ b o, b < A.heap.size → B.cell? ⟨b, o, none⟩ = A.cell? ⟨b, o, none⟩) ∧ (∀ b o, b < A.heap.size → B.frozen? ⟨b, o, none⟩ = A.frozen? ⟨b, o, none⟩) :=
  ⟨fun b o hb => h.cell (p := ⟨b, o, none⟩) hb, fun b o hb => h.frozen (p := ⟨b, o, none⟩) hb⟩

/-- The boxes of the law. -/
structure Cio (w : World) (v : Nat) (A : Option Addr) (n c : Nat) (S : Int) (q : Nat) (V : Bool) (kk : Int) (xx : Int) (X : World) : Prop where
  b : Below w.heap.size w X
  z : v + 5 ≤ X.heap.size
  r : Var X w.heap.size #[.slice A n c] 22
  s : Var X (w.heap.size + 1) #[.int .i64 S] 3
  o : Var X (w.heap.size + 2) #[.bool false] 4
  gn : Var X v #[.int .i64 q] 3
  gV : Var X (v + 1) #[.bool V] 4
  gk : Var X (v + 2) #[.int .i64 kk] 3
  gx : Var X (v + 3) #[.int .i64 xx] 3
  gc : Var X (v + 4) #[.slice A n c] 22
section
variable {w X Y : World} {v : Nat} {A : Option Addr} {n c : Nat} {S : Int} {q : Nat} {V : Bool} {kk xx : Int}
theorem Cio.next (h : Cio w v A n c S q V kk xx X) (hb : Below X.heap.size X Y) : Cio w v A n c S q V kk xx Y :=
  ⟨below_next h.b hb, Nat.le_trans h.z hb.size, h.r.next hb, h.s.next hb, h.o.next hb, h.gn.next hb, h.gV.next hb, h.gk.next hb, h.gx.next hb, h.gc.next hb⟩
theorem Cio.put (h : Cio w v A n c S q V kk xx X) (hw : w.heap.size + 3 ≤ v) {l : Nat} {o : Obj} (o' : Obj) (hl : v + 5 ≤ l) (ho : X.heap[l]? = some o) (h1 : o.isCells = false) (h2 : o.isWalk = false) : Cio w v A n c S q V kk xx (X.putObj l o') :=
  ⟨h.b.trans (belowK_b (w := w) (Nat.le_refl _) X l o o' (by omega) ho h1 h2), by simpa [World.putObj] using h.z, h.r.keep (World.putObj_heap_other (by omega)), h.s.keep (World.putObj_heap_other (by omega)), h.o.keep (World.putObj_heap_other (by omega)),
    h.gn.keep (World.putObj_heap_other (by omega)), h.gV.keep (World.putObj_heap_other (by omega)), h.gk.keep (World.putObj_heap_other (by omega)), h.gx.keep (World.putObj_heap_other (by omega)), h.gc.keep (World.putObj_heap_other (by omega))⟩
theorem Cio.setN (h : Cio w v A n c S q V kk xx X) (hw : w.heap.size + 3 ≤ v) (u : Nat) : Cio w v A n c S u V kk xx (X.setCell ⟨v, 0, none⟩ (.int .i64 u)) :=
  ⟨h.b.setCell (p := ⟨v, 0, none⟩) (by show w.heap.size ≤ v; omega) _, by rw [World.size_setCell]; exact h.z, h.r.far (by show w.heap.size ≠ v; omega) _, h.s.far (by show w.heap.size + 1 ≠ v; omega) _, h.o.far (by show w.heap.size + 2 ≠ v; omega) _,
    h.gn.set _, h.gV.far (by show v + 1 ≠ v; omega) _, h.gk.far (by show v + 2 ≠ v; omega) _, h.gx.far (by show v + 3 ≠ v; omega) _, h.gc.far (by show v + 4 ≠ v; omega) _⟩
theorem Cio.setK (h : Cio w v A n c S q V kk xx X) (hw : w.heap.size + 3 ≤ v) (u : Int) : Cio w v A n c S q V u xx (X.setCell ⟨v + 2, 0, none⟩ (.int .i64 u)) :=
  ⟨h.b.setCell (p := ⟨v + 2, 0, none⟩) (by show w.heap.size ≤ v + 2; omega) _, by rw [World.size_setCell]; exact h.z, h.r.far (by show w.heap.size ≠ v + 2; omega) _, h.s.far (by show w.heap.size + 1 ≠ v + 2; omega) _, h.o.far (by show w.heap.size + 2 ≠ v + 2; omega) _,
    h.gn.far (by show v ≠ v + 2; omega) _, h.gV.far (by show v + 1 ≠ v + 2; omega) _, h.gk.set _, h.gx.far (by show v + 3 ≠ v + 2; omega) _, h.gc.far (by show v + 4 ≠ v + 2; omega) _⟩
theorem Cio.setN' (h : Cio w v A n c S q V kk xx X) (hw : w.heap.size + 3 ≤ v) {u : Int} {q' : Nat} (e : u = q') : Cio w v A n c S q' V kk xx (X.setCell ⟨v, 0, none⟩ (.int .i64 u)) := by subst e; exact h.setN hw q'
theorem Cio.setX (h : Cio w v A n c S q V kk xx X) (hw : w.heap.size + 3 ≤ v) (u : Int) : Cio w v A n c S q V kk u (X.setCell ⟨v + 3, 0, none⟩ (.int .i64 u)) :=
  ⟨h.b.setCell (p := ⟨v + 3, 0, none⟩) (by show w.heap.size ≤ v + 3; omega) _, by rw [World.size_setCell]; exact h.z, h.r.far (by show w.heap.size ≠ v + 3; omega) _, h.s.far (by show w.heap.size + 1 ≠ v + 3; omega) _, h.o.far (by show w.heap.size + 2 ≠ v + 3; omega) _,
    h.gn.far (by show v ≠ v + 3; omega) _, h.gV.far (by show v + 1 ≠ v + 3; omega) _, h.gk.far (by show v + 2 ≠ v + 3; omega) _, h.gx.set _, h.gc.far (by show v + 4 ≠ v + 3; omega) _⟩
end
theorem Cio.start {w Wa : World} {v : Nat} {A : Option Addr} {n c : Nat} {S x1 : Int} {V : Bool} (xx : Int) (hw : w.heap.size + 3 ≤ v) (hz : Wa.heap.size = v + 2) (hb : Below w.heap.size w Wa) (h0 : Var Wa w.heap.size #[.slice A n c] 22) (h1 : Var Wa (w.heap.size + 1) #[.int .i64 x1] 3)
    (h2 : Var Wa (w.heap.size + 2) #[.bool false] 4) (h3 : Var Wa v #[.int .i64 0] 3) (h4 : Var Wa (v + 1) #[.bool V] 4) :
    Cio w v A n c S 0 V 0 xx ((((Wa.setCell ⟨w.heap.size + 1, 0, none⟩ (.int .i64 S)).alloc (.cells #[.int .i64 0] 3)).alloc (.cells #[.int .i64 xx] 3)).alloc (.cells #[.slice A n c] 22)) := by
  have e0 : (Wa.setCell ⟨w.heap.size + 1, 0, none⟩ (.int .i64 S)).heap.size = v + 2 := by rw [World.size_setCell]; exact hz
  refine ⟨below_alloc (below_alloc (below_alloc (hb.setCell (p := ⟨w.heap.size + 1, 0, none⟩) (by show w.heap.size ≤ w.heap.size + 1; omega) _) _) _) _, by rw [World.size_alloc, World.size_alloc, World.size_alloc, e0]; omega, ?_, ?_, ?_, ?_, ?_, ?_, ?_, ?_⟩
  · exact (((h0.far (by show w.heap.size ≠ w.heap.size + 1; omega) _).alloc _).alloc _).alloc _
  · exact (((h1.set _).alloc _).alloc _).alloc _
  · exact (((h2.far (by show w.heap.size + 2 ≠ w.heap.size + 1; omega) _).alloc _).alloc _).alloc _
  · exact (((h3.far (by show v ≠ w.heap.size + 1; omega) _).alloc _).alloc _).alloc _
  · exact (((h4.far (by show v + 1 ≠ w.heap.size + 1; omega) _).alloc _).alloc _).alloc _
  · exact ((Var.new _ _ _ _ e0.symm).alloc _).alloc _
  · exact (Var.new _ _ _ _ (by rw [World.size_alloc, e0])).alloc _
  · exact Var.new _ _ _ _ (by rw [World.size_alloc, World.size_alloc, e0])
/-- Behind the loop. -/
structure Fin (w : World) (v : Nat) (A : Option Addr) (n c : Nat) (ss : List Rn) (S : Int) (q : Nat) (V : Bool) (kk xx : Int) (D : Nat) (X : World) : Prop where
  i : Cio w v A n c S q V kk xx X
  r : Runs X A ss
  d : v + 5 ≤ D
  k : X.heap[D]? = some (.deferred (some []))
  w : w.heap.size + 3 ≤ v
theorem Fin.next {w X Y : World} {v : Nat} {A : Option Addr} {n c : Nat} {ss : List Rn} {S : Int} {q : Nat} {V : Bool} {kk xx : Int} {D : Nat} (h : Fin w v A n c ss S q V kk xx D X) (hb : Below X.heap.size X Y) : Fin w v A n c ss S q V kk xx D Y :=
  ⟨h.i.next hb, h.r.next hb, h.d, (hb.block _ (Array.getElem?_eq_some_iff.1 h.k).1).trans h.k, h.w⟩
theorem Runs.putC {A : World} {A' : Option Addr} {xs : List Rn} (h : Runs A A' xs) {l : Nat} {o : Obj} (o' : Obj) (ho : A.heap[l]? = some o) (h1 : o.isCells = false) : Runs (A.putObj l o') A' xs := fun hn => by
  obtain ⟨a, e, hl, hr⟩ := h hn
  refine ⟨a, e, by simpa [World.putObj] using hl, fun i s hi => ?_⟩
  obtain ⟨c0, c1, c2⟩ := hr i s hi
  have kept : ∀ {p : Addr} {v : Value}, A.cell? p = some v → (A.putObj l o').cell? p = some v := fun hc => cell_kept hc (grownBy_putObj' A l o') (fun r e => by cases e; exact ⟨_, ho, h1⟩)
  exact ⟨kept c0, kept c1, kept c2⟩
theorem others_ofB {A B : World} (h : Below A.heap.size A B) : KeepsOthers A B := ⟨h.size, fun k o hk _ => (h.block k (Array.getElem?_eq_some_iff.1 hk).1).trans hk⟩
/-- Where the law stands: the next cell is the j-th of run kk, or there is none. -/
def At (ss : List Rn) (q : Nat) (kk xx : Int) : Prop :=
  (∃ (k j : Nat) (r : Rn), kk = k ∧ ss[k]? = some r ∧ j < (r.b - r.a).toNat ∧ xx = r.a + (j : Int) ∧ (cellsL ss).drop q = (cellsOf r).drop j ++ cellsL (ss.drop (k + 1))) ∨ (cellsL ss).drop q = []
theorem cells_len {ss : List Rn} (h : ∀ r ∈ ss, r.a < r.b) : ((cellsL ss).length : Int) = areaL ss := by
  induction ss with
  | nil => rfl
  | cons r rs ih =>
    have h1 := h r (by simp)
    have h2 := ih (fun s hs => h s (List.mem_cons_of_mem _ hs))
    unfold cellsL at h2 ⊢
    rw [List.flatMap_cons, List.length_append, cellsOf_len, areaL, ← h2]
    omega

theorem run_loadBool {ρ : Operand → Value} {dst : Option Tmp} {ty : TypeId} {pos : String} {af : Array Edge} {x : Operand} {w : World} {gd : Option (Nat × Bool)} {a : Addr} {b : Bool} (hx : ρ x = .pointer (some a)) (hV : w.cell? a = some (.bool b)) :
    (execOp ρ { dst := dst, op := .load 4 x, type := ty, pos := pos, after := af, guard := gd }).run Try.prog w = .ok (.value (.bool b)) w := by
  go_simp
theorem run_storeBool {ρ : Operand → Value} {x y : Operand} {t : TypeId} {pos : String} {af : Array Edge} {w : World} {gd : Option (Nat × Bool)} {B j : Nat} {b : Bool} {u : Value} (hp : ρ x = .pointer (some ⟨B, j, none⟩)) (hq : ρ y = .bool b)
    (hc : w.cell? ⟨B, j, none⟩ = some u) (hf : w.frozen? ⟨B, j, none⟩ = false) :
    (execOp ρ { dst := none, op := .store 4 x y, type := t, pos := pos, after := af, guard := gd }).run Try.prog w = .ok .skip (w.setCell ⟨B, j, none⟩ (.bool b)) := by
  go_simp
theorem enters_area : Enters Try.prog 26 := enters_of Try.func26 (by kernel_rfl) rfl
/-- The law returns what stands in its result. -/
theorem cio_end {w X : World} {v : Nat} {A : Option Addr} {n c : Nat} {ss : List Rn} {S : Int} {q : Nat} {V : Bool} {kk xx : Int} {D : Nat} {tmps : Array Value} (h : Fin w v A n c ss S q V kk xx D X) (ht : tmps.getD 4 undef = .pointer (some ⟨w.heap.size + 1 + 1, 0, none⟩)) :
    bodyPostM Fence.wide 6 Try.prog Try.f5 (fun e w' => e = .returned (.bool true) ∧ Below w.heap.size w w') .ret { tmps := tmps, defers := [{ target := .collected D, args := #[] }] } (X.setCell ⟨w.heap.size + 1 + 1, 0, none⟩ (.bool true)) := by
  have hK' := (KeepsOthers.setCell X ⟨w.heap.size + 1 + 1, 0, none⟩ (.bool true)).same D _ h.k rfl
  refine ⟨by simp, .inl ⟨_, _, rfl, run_takeDeferred hK', ?_⟩⟩
  have e2 := h.i.o.cell 0
  have hc := cell_kept (World.cell?_setCell_same' X ⟨w.heap.size + 1 + 1, 0, none⟩ (.bool true) (by rw [e2]; rfl)) (grownBy_putObj' _ D (.deferred none)) (fun r e => by cases e; exact ⟨_, hK', rfl⟩)
  refine ⟨.bool true, ?_, rfl, (h.i.b.setCell (p := ⟨w.heap.size + 1 + 1, 0, none⟩) (by show w.heap.size ≤ w.heap.size + 1 + 1; omega) _).trans (belowK_b (w := w) (Nat.le_refl _) _ D _ _ (by have := h.d; have := h.w; omega) hK' rfl rfl)⟩
  simp only [Array.getD_eq_getD_getElem?] at ht
  simp [results, Try.f5, go_sem, hc, ht]

set_option maxRecDepth 100000 in
set_option maxHeartbeats 4000000 in
theorem cio_any (A : Option Addr) (n c : Nat) (ss : List Rn) (x1 : Int) (w : World) (hn : n = ss.length) (hs : Runs w A ss) (hm : n ≤ maxLen) :
    Calls Try.prog 5 #[.slice A n c, .int .i64 x1] w fun e w' => e = .returned (.bool true) ∧ Below w.heap.size w w' := by
  have HS := hid hs
  have HN := hid hn
  clear hs hn
  refine (callsIn_wide (n := 6)).1 ?_
  refine callsIn_of_wp_marks Try.func5 rfl trivial ?_ rfl
  simp only [Try.ntmps5, List.size_toArray, List.length_cons, List.length_nil, Nat.reduceAdd, Nat.reduceSub, Array.replicate_succ, Array.replicate_zero, List.push_toArray, List.append_toArray, List.nil_append, List.cons_append]
  gi_wp2
  refine ⟨trivial, ?_⟩
  refine (callsIn_wide.2 (regions_any _)).mono ?_
  rintro e w1 ⟨rfl, hb1⟩
  have HB1 := hid (below_next (below_alloc (below_alloc (below_alloc (Below.refl w.heap.size w) _) _) _) hb1)
  have hs1 : w.heap.size + 3 ≤ w1.heap.size := by have := hb1.size; simp at this; exact this
  have HV0 := hid ((((Var.new w #[.slice A n c] 22 _ rfl).alloc (.cells #[.int .i64 x1] 3)).alloc (.cells #[.bool false] 4)).next hb1)
  have HV1 := hid (((Var.new (w.alloc (.cells #[.slice A n c] 22)) #[.int .i64 x1] 3 _ rfl).alloc (.cells #[.bool false] 4)).next hb1)
  have HV2 := hid ((Var.new ((w.alloc (.cells #[.slice A n c] 22)).alloc (.cells #[.int .i64 x1] 3)) #[.bool false] 4 _ rfl).next hb1)
  clear hb1
  rw [World.size_alloc] at HV1 HV2
  rw [World.size_alloc] at HV2
  have q0 := HV0.out.cell 0
  have q1 := HV1.out.cell 0
  have q2 := HV2.out.cell 0
  simp only [List.getElem?_toArray, List.getElem?_cons_zero] at q0 q1 q2
  have f1 := HV1.out.free 0
  gi_wp2
  refine ⟨trivial, ?_⟩
  refine (callsIn_wide.2 (rcheck_any A ss n c _ HN.out hm (HS.out.next HB1.out))).mono ?_
  rintro e v0 ⟨rfl, hb2⟩
  have HB2 := hid (below_next HB1.out hb2)
  have hs2 : w.heap.size + 3 ≤ v0.heap.size := by have := hb2.size; omega
  have HA0 := hid (HV0.out.next hb2)
  have HA1 := hid (HV1.out.next hb2)
  have HA2 := hid (HV2.out.next hb2)
  clear q0 q1 q2 f1 hb2 HV0 HV1 HV2 HB1
  have q0 := HA0.out.cell 0
  have q1 := HA1.out.cell 0
  simp only [List.getElem?_toArray, List.getElem?_cons_zero] at q0 q1
  have f1 := HA1.out.free 0
  have t0 : w.heap.size < v0.heap.size := by omega
  have t1 : w.heap.size + 1 < v0.heap.size := by omega
  have t2 : w.heap.size + 1 + 1 < v0.heap.size := by omega
  by_cases hc : chk ss = 0
  · have HC := hid hc
    rw [hc]
    clear hc
    have hsa : ((v0.alloc (.cells #[.int .i64 0] 3)).alloc (.cells #[.bool true] 4)).heap.size = v0.heap.size + 2 := by simp
    have HW0 := hid ((HA0.out.alloc (.cells #[.int .i64 0] 3)).alloc (.cells #[.bool true] 4))
    have HW1 := hid ((HA1.out.alloc (.cells #[.int .i64 0] 3)).alloc (.cells #[.bool true] 4))
    have HW2 := hid ((HA2.out.alloc (.cells #[.int .i64 0] 3)).alloc (.cells #[.bool true] 4))
    have HW3 := hid ((Var.new v0 #[.int .i64 0] 3 _ rfl).alloc (.cells #[.bool true] 4))
    have HW4 := hid (Var.new (v0.alloc (.cells #[.int .i64 0] 3)) #[.bool true] 4 (v0.heap.size + 1) (by simp))
    have HWB := hid (below_alloc (below_alloc HB2.out (.cells #[.int .i64 0] 3)) (.cells #[.bool true] 4))
    have HSA := hid hsa
    gi_wp2
    clear hsa q0 q1 f1 HA0 HA1 HA2 HB2
    generalize (v0.alloc (.cells #[.int .i64 0] 3)).alloc (.cells #[.bool true] 4) = Wa at HW0 HW1 HW2 HW3 HW4 HWB HSA ⊢
    refine ⟨trivial, ?_⟩
    refine (callsIn_wide.2 (cutl_val x1 0 300 _ (by omega) (by omega) (by omega) (by omega))).mono ?_
    rintro e w3 ⟨S, hS0, hS9, rfl, rfl⟩
    have q0 := HW0.out.cell 0
    have q1 := HW1.out.cell 0
    simp only [List.getElem?_toArray, List.getElem?_cons_zero] at q0 q1
    have f1 := HW1.out.free 0
    have u0 : w.heap.size < Wa.heap.size := HW0.out.lt
    have u1 : w.heap.size + 1 < Wa.heap.size := HW1.out.lt
    have hlen : (0 : Int) < (n : Int) ∨ n = 0 := by omega
    rcases hlen with hpos | hnil
    · have hz : 0 < ss.length := by rw [← HN.out]; omega
      obtain ⟨a, rfl, hal, hsr⟩ := (HS.out.next HWB.out).at_ hz
      obtain ⟨r, hr⟩ : ∃ r, r = ss[0] := ⟨_, rfl⟩
      rw [← hr] at hsr
      have HR0 := hid hr
      obtain ⟨-, c1, -⟩ := hsr
      rw [show (a.add (0 * 3)).off = a.off by unfold Addr.add; split <;> simp_all, add_block] at c1
      have hax : a.block < w.heap.size := by obtain ⟨a', e', hl', -⟩ := HS.out (by intro e; rw [e] at hz; simp at hz); cases e'; exact hl'
      have c1' : (((Wa.setCell ⟨w.heap.size + 1, 0, none⟩ (.int .i64 S)).alloc (.cells #[.int .i64 0] 3)).alloc (.cells #[.int .i64 0] 3)).cell? ⟨a.block, a.off + 1, none⟩ = some (.int .i64 r.a) := by
        refine (World.cell?_of_block (Below.heap_alloc _ _ _ ?_)).trans ((World.cell?_of_block (Below.heap_alloc _ _ _ ?_)).trans ((World.cell?_of_block (Below.heap_setCell _ _ _ _ ?_)).trans c1))
        · rw [World.size_alloc, World.size_setCell]; show a.block < _; omega
        · rw [World.size_setCell]; show a.block < _; omega
        · show a.block ≠ w.heap.size + 1; omega
      clear hr c1
      gi_wp2
      refine ⟨trivial, ?_⟩
      refine (callsIn_wide.2 (cells_make _ _ _ _)).mono ?_
      rintro e X ⟨rfl, hX⟩
      have HC0 := hid (show Cio w v0.heap.size (some a) n c S 0 true 0 r.a X by rw [hX]; exact Cio.start _ hs2 HSA.out HWB.out HW0.out HW1.out HW2.out HW3.out HW4.out)
      rw [show (((Wa.setCell ⟨w.heap.size + 1, 0, none⟩ (.int .i64 S)).alloc (.cells #[.int .i64 0] 3)).alloc (.cells #[.int .i64 r.a] 3)).heap.size = v0.heap.size + 4 from by rw [World.size_alloc, World.size_alloc, World.size_setCell, HSA.out]]
      have sX : X.heap.size = v0.heap.size + 5 := by rw [hX, World.size_alloc, World.size_alloc, World.size_alloc, World.size_setCell, HSA.out]
      have HRX := hid (HS.out.next HC0.out.b)
      rw [HSA.out]
      have HAT : Hid (At ss 0 0 r.a) := hid (.inl ⟨0, 0, r, rfl, by rw [HR0.out]; exact List.getElem?_eq_getElem hz, by
        have := (chk_all HC.out).1 _ (List.getElem_mem hz)
        rw [← HR0.out] at this
        have := this.2
        omega, by simp, by rw [List.drop_zero, List.drop_zero]; have := cellsL_at hz; rw [List.drop_zero, ← HR0.out] at this; exact this⟩)
      clear hX HW0 HW1 HW2 HW3 HW4 HWB HSA q0 q1 f1 u0 u1 c1' hal
      --RANGE
      gi_wp2
      refine range_all (gf := 50) (lb := #[.pointer (some ⟨v0.heap.size + 4, 0, none⟩)]) rfl (by omega) rfl trivial (enters_of Try.func50 (by kernel_rfl) rfl) (CellAt ss) (cellsN ss)
        (fun q M X => M = (fun z => z < v0.heap.size + 5) ∧ (q : Int) ≤ S ∧ ∃ kk xx, Cio w v0.heap.size (some a) n c S q true kk xx X ∧ Runs X (some a) ss ∧ At ss q kk xx)
        (fun cd j X => cd = .exit 0 ∧ (j : Int) = S + 1 ∧ ∃ (q : Nat) (kk xx : Int), (q : Int) = S ∧ Cio w v0.heap.size (some a) n c S q true kk xx X ∧ Runs X (some a) ss)
        (cells_iter 5 (by omega) (v0.heap.size + 4) (some a) ss n c _ HN.out hm (fun q M X h => by obtain ⟨-, -, kk, xx, h1, h2, -⟩ := h; exact ⟨h1.gc.cell 0, h2⟩)) (fun q v X h => by obtain ⟨p, -, rfl⟩ := h; rfl)
        (fun q M X Y h hb => by obtain ⟨h0, hq, kk, xx, h1, h2, h3⟩ := h; exact ⟨h0, hq, kk, xx, h1.next hb, h2.next hb, h3⟩)
        (fun q M X l o o' h hl ho e1 e2 => by obtain ⟨h0, hq, kk, xx, h1, h2, h3⟩ := h; exact ⟨h0, hq, kk, xx, h1.put hs2 o' (by omega) ho e1 e2, h2.putC o' ho e1, h3⟩)
        (fun cd q X l o o' h hl ho e1 e2 => by obtain ⟨h0, hj, q', kk, xx, hq, h1, h2⟩ := h; exact ⟨h0, hj, q', kk, xx, hq, h1.put hs2 o' (by omega) ho e1 e2, h2.putC o' ho e1⟩)
        (fun z => z < v0.heap.size + 5) (fun q h => by rw [sX]; exact h) ⟨rfl, by omega, 0, r.a, HC0.out, HRX.out, HAT.out⟩
        (fun q M v a' X => M = (fun z => z < v0.heap.size + 5) ∧ (q : Int) ≤ S ∧ ∃ kk xx B p, Cio w v0.heap.size (some a) n c S q true kk xx X ∧ Runs X (some a) ss ∧ At ss q kk xx ∧ (cellsL ss)[q]? = some p ∧ Var X B (pcel p) 31 ∧ a' = { tmps := #[.slice (some a) n c, .int .i64 x1, .pointer (some ⟨w.heap.size, 0, none⟩), .pointer (some ⟨w.heap.size + 1, 0, none⟩), .pointer (some ⟨w.heap.size + 2, 0, none⟩), .pointer (some ⟨v0.heap.size, 0, none⟩), .pointer (some ⟨v0.heap.size + 1, 0, none⟩), .pointer (some ⟨v0.heap.size + 2, 0, none⟩), .pointer (some ⟨v0.heap.size + 3, 0, none⟩), .pointer (some ⟨B, 0, none⟩), .bool true, .bool false, .slice (some a) n c, .int .i64 0, .bool true, .int .i64 x1, .int .i64 S, .slice (some a) n c, .int .i64 n, .bool true, .slice (some a) n c, .pointer (some a), .pointer (some { block := a.block, off := a.off + 1 }), .int .i64 r.a, .slice (some a) n c, .func (.func 50) #[] #[.pointer (some ⟨v0.heap.size + 4, 0, none⟩)], ptv p, undef, undef, undef, undef, undef, undef, undef, undef, undef, undef, undef, undef, undef, undef, undef, undef, undef, undef, undef, undef, undef, undef, undef, undef, undef, undef, undef, undef, undef, undef, undef, undef, undef, undef, undef, undef, undef, undef, undef, undef, undef, undef, undef, undef, undef, undef, undef, undef, undef, undef, undef, undef, undef, undef, undef, undef, undef, undef, undef, undef, undef], defers := [] })
        (fun q M v a' X l o o' h hl ho e1 e2 => by
          obtain ⟨h0, hq, kk, xx, B, p, h1, h2, h3, h4, h5, h6⟩ := h
          exact ⟨h0, hq, kk, xx, B, p, h1.put hs2 o' (by omega) ho e1 e2, h2.putC o' ho e1, h3, h4, h5.keep (World.putObj_heap_other (fun e => by subst e; have h7 := h5; unfold Var at h7; rw [ho] at h7; cases h7; cases e1)), h6⟩)
        ?assign ?body ?done ?stop
      case assign =>
        clear HC0 HRX HAT
        rintro l q M v X K ⟨h0, hq, kk, xx, h1, h2, h3⟩ hM ⟨p, hp, rfl⟩ hk hK
        gi_wp2
        exact hK _ _ (KeepsOthers.alloc _ _) (Kept.below ((Below.refl _ X).alloc (Nat.le_refl _) _)) ⟨h0, hq, kk, xx, X.heap.size, p, h1.next ((Below.refl _ X).alloc (Nat.le_refl _) _), h2.next ((Below.refl _ X).alloc (Nat.le_refl _) _), h3, hp, Var.new _ _ _ _ rfl, rfl⟩
      case body =>
        clear HC0 HRX HAT
        rintro l q M v a' X ⟨rfl, hq, kk, xx, B, p, h1, h2, h3, h4, h5, rfl⟩ hk
        rcases h3 with ⟨k, j, r2, rfl, hr2, hj, rfl, hd⟩ | hd
        · have hd1 := hd
          rw [cellsOf_at hj, List.cons_append] at hd1
          obtain ⟨-, d2, d3⟩ := drop_consP hd1
          rw [h4] at d2
          cases d2
          have HCI := hid h1
          have HRR := hid h2
          have HD := hid d3
          have HB := hid h5
          have HR2 := hid hr2
          have HKQ : Hid ((q : Int) ≤ S ∧ q < cellsN ss) := hid ⟨hq, hk⟩
          obtain ⟨hkl, hke⟩ := List.getElem?_eq_some_iff.1 hr2
          have hkn : k < n := by rw [HN.out]; exact hkl
          have hnb : n ≤ 1000000000 := by rw [HN.out]; exact chk_len HC.out
          obtain ⟨a2, ha2, hal, hsr⟩ := h2.at_ hkl
          cases ha2
          rw [hke] at hsr
          have hrr := (chk_all HC.out).1 r2 (List.mem_of_getElem? hr2)
          obtain ⟨⟨⟨ry1, ry2⟩, ⟨ra1, ra2⟩, rb1, rb2⟩, rab⟩ := (show ((-8192 ≤ r2.y ∧ r2.y ≤ 8191) ∧ (-8192 ≤ r2.a ∧ r2.a ≤ 8192) ∧ (-8192 ≤ r2.b ∧ r2.b ≤ 8192)) ∧ r2.a < r2.b from hrr)
          obtain ⟨c0, c1, c2⟩ := hsr
          have q0 := h1.r.cell 0
          have q1 := h1.s.cell 0
          have q3 := h1.gn.cell 0
          have q4 := h1.gV.cell 0
          have q5 := h1.gk.cell 0
          have q6 := h1.gx.cell 0
          obtain ⟨p0, p1, -⟩ := h5.read2
          simp only [List.getElem?_toArray, List.getElem?_cons_zero] at q0 q1 q3 q4 q5 q6
          have hkn1 : decide (n ≤ k) = false := decide_eq_false (by omega)
          have hkn2 : (k : Int) < (n : Int) := by omega
          have hkn0 : (0 : Int) ≤ (k : Int) := Int.natCast_nonneg _
          clear h1 h2 h5 hd hd1 d3 hr2 h4 hq hk hrr
          gi_wp2
          refine quiet_round (by kernel_rfl) (by kernel_rfl) (by kernel_rfl) ?_
          repeat (gi_big_quiet_step (fail))
          refine wpQuietIn_nil ?_
          rintro _ ⟨nq, rfl⟩
          have HBq := hid (below_drewN (Below.refl X.heap.size X) nq)
          generalize X.drewN nq = X2 at HBq ⊢
          have HC2 := hid (HCI.out.next HBq.out)
          have HR3 := hid (HRR.out.next HBq.out)
          have HO2 := hid (others_ofB HBq.out)
          have HK2 := hid (show Kept (fun z => z < v0.heap.size + 5) X X2 from Kept.below HBq.out)
          clear q0 q1 q3 q4 q5 q6 p0 p1 c0 c1 c2 HB HCI HRR HBq hkn1
          have q1 := HC2.out.s.cell 0
          have q3 := HC2.out.gn.cell 0
          have q6 := HC2.out.gx.cell 0
          have f3 := HC2.out.gn.free 0
          have f6 := HC2.out.gx.free 0
          simp only [List.getElem?_toArray, List.getElem?_cons_zero] at q1 q3 q6
          have hv3 : v0.heap.size ≠ v0.heap.size + 3 := by omega
          by_cases hqS : (q : Int) = S
          · have HQS := hid hqS
            rw [hqS] at q3
            clear hqS
            gi_wp2
            exact ⟨HO2.out, rfl, by have := HQS.out; omega, q, _, _, HQS.out, HC2.out, HR3.out⟩
          · have hqS' : ((q : Int) == S) = false := by simpa using hqS
            have HQ1 : Hid (((q + 1 : Nat) : Int) ≤ S) := hid (by have := HKQ.out.1; omega)
            have hq300 : (q : Int) ≤ 300 := by have := HKQ.out.1; omega
            clear hqS
            gi_upto_region 15 with fail
            have HC3 := hid ((HC2.out.setN' hs2 (u := (q : Int) + 1) (q' := q + 1) (by omega)).setX hs2 (r2.a + (j : Int) + 1))
            have HO3 := hid ((HO2.out.trans (KeepsOthers.setCell _ ⟨v0.heap.size, 0, none⟩ (.int .i64 ((q : Int) + 1)))).trans (KeepsOthers.setCell _ ⟨v0.heap.size + 3, 0, none⟩ (.int .i64 (r2.a + (j : Int) + 1))))
            have HK3 := hid ((HK2.out.trans (Kept.set (M := fun z => z < v0.heap.size + 5) (p := ⟨v0.heap.size, 0, none⟩) (by show v0.heap.size < v0.heap.size + 5; omega) (.int .i64 ((q : Int) + 1)))).trans (Kept.set (M := fun z => z < v0.heap.size + 5) (p := ⟨v0.heap.size + 3, 0, none⟩) (by show v0.heap.size + 3 < v0.heap.size + 5; omega) (.int .i64 (r2.a + (j : Int) + 1))))
            have HRA := hid (HS.out.next HC3.out.b)
            clear q1 q3 q6 f3 f6 HC2 HO2 HK2 HR3
            generalize World.setCell _ ⟨v0.heap.size + 3, 0, none⟩ _ = X3 at HC3 HO3 HK3 HRA ⊢
            have q0 := HC3.out.r.cell 0
            have q5 := HC3.out.gk.cell 0
            have q6 := HC3.out.gx.cell 0
            simp only [List.getElem?_toArray, List.getElem?_cons_zero] at q0 q5 q6
            obtain ⟨a2, ha2, hal3, hsr⟩ := HRA.out.at_ (i := k) (by rw [← HN.out]; exact hkn)
            cases ha2
            rw [(List.getElem?_eq_some_iff.1 HR2.out).2] at hsr
            obtain ⟨-, -, c2⟩ := hsr
            gi_wp2
            refine quiet_round (by kernel_rfl) (by kernel_rfl) (by kernel_rfl) ?_
            repeat (gi_big_quiet_step (fail))
            refine wpQuietIn_nil ?_
            rintro _ ⟨nq, rfl⟩
            have HBq := hid (below_drewN (Below.refl X3.heap.size X3) nq)
            generalize X3.drewN nq = X4 at HBq ⊢
            have HC4 := hid (HC3.out.next HBq.out)
            have HO4 := hid (HO3.out.trans (others_ofB HBq.out))
            have HK4 := hid (HK3.out.trans (Kept.below HBq.out))
            clear q0 q5 q6 HC3 HO3 HK3 HRA HBq hal3
            by_cases hend : r2.a + (j : Int) + 1 = r2.b
            · have hb1 : (r2.a + (j : Int) + 1 == r2.b) = true := by simpa using hend
              have HEND := hid hend
              clear c2 hend
              have q5 := HC4.out.gk.cell 0
              have f5 := HC4.out.gk.free 0
              simp only [List.getElem?_toArray, List.getElem?_cons_zero] at q5
              gi_upto_region 17 with fail
              have HC5 := hid (show Cio w v0.heap.size (some a) n c S (q + 1) true ((k + 1 : Nat) : Int) (r2.a + (j : Int) + 1) (X4.setCell ⟨v0.heap.size + 2, 0, none⟩ (.int .i64 ((k + 1 : Nat) : Int))) from HC4.out.setK hs2 _)
              have HO5 := hid (HO4.out.trans (KeepsOthers.setCell X4 ⟨v0.heap.size + 2, 0, none⟩ (.int .i64 ((k + 1 : Nat) : Int))))
              have HK5 := hid (HK4.out.trans (Kept.set (M := fun z => z < v0.heap.size + 5) (A := X4) (p := ⟨v0.heap.size + 2, 0, none⟩) (by show v0.heap.size + 2 < v0.heap.size + 5; omega) (.int .i64 ((k + 1 : Nat) : Int))))
              rw [show (k : Int) + 1 = ((k + 1 : Nat) : Int) by omega]
              clear q5 f5 HC4 HO4 HK4
              generalize World.setCell X4 ⟨v0.heap.size + 2, 0, none⟩ _ = X5 at HC5 HO5 HK5 ⊢
              have q0 := HC5.out.r.cell 0
              have q5 := HC5.out.gk.cell 0
              have q6 := HC5.out.gx.cell 0
              have f6 := HC5.out.gx.free 0
              simp only [List.getElem?_toArray, List.getElem?_cons_zero] at q0 q5 q6
              have HRE := hid (HS.out.next HC5.out.b)
              by_cases hk1 : k + 1 < n
              · have hkl1 : k + 1 < ss.length := by rw [← HN.out]; exact hk1
                obtain ⟨a2, ha2, hal3, hsr⟩ := HRE.out.at_ hkl1
                cases ha2
                obtain ⟨r3, hr3⟩ : ∃ r3, r3 = ss[k + 1] := ⟨_, rfl⟩
                rw [← hr3] at hsr
                have HR3 := hid hr3
                obtain ⟨-, c1, -⟩ := hsr
                have hkk1 : ((k + 1 : Nat) : Int) < (n : Int) := by omega
                have hkk0 : (0 : Int) ≤ ((k + 1 : Nat) : Int) := Int.natCast_nonneg _
                clear hr3
                gi_wp2
                refine ⟨HO5.out.trans (KeepsOthers.setCell _ _ _), _, ⟨rfl, HQ1.out, ((k + 1 : Nat) : Int), r3.a, HC5.out.setX hs2 _, HS.out.next (HC5.out.setX hs2 r3.a).b, .inl ⟨k + 1, 0, r3, rfl, by rw [HR3.out]; exact List.getElem?_eq_getElem hkl1, ?_, by simp, ?_⟩⟩, fun z hz => Nat.lt_of_lt_of_le hz (HC5.out.setX hs2 r3.a).z, fun z hz => .inl hz, HK5.out.trans (Kept.set (M := fun z => z < v0.heap.size + 5) (p := ⟨v0.heap.size + 3, 0, none⟩) (by show v0.heap.size + 3 < v0.heap.size + 5; omega) _)⟩
                · have := ((chk_all HC.out).1 _ (List.getElem_mem hkl1)).2
                  rw [← HR3.out] at this
                  omega
                · have h1 := HD.out
                  rw [show (cellsOf r2).drop (j + 1) = [] from List.drop_eq_nil_of_le (by rw [cellsOf_len]; have := HEND.out; omega), List.nil_append] at h1
                  rw [h1, List.drop_zero, HR3.out]
                  exact cellsL_at hkl1
              · have hkk1 : ¬ ((k + 1 : Nat) : Int) < (n : Int) := by omega
                gi_wp2
                refine ⟨HO5.out, _, ⟨rfl, HQ1.out, ((k + 1 : Nat) : Int), _, HC5.out, HRE.out, .inr ?_⟩, fun z hz => Nat.lt_of_lt_of_le hz HC5.out.z, fun z hz => .inl hz, HK5.out⟩
                have h1 := HD.out
                rw [show (cellsOf r2).drop (j + 1) = [] from List.drop_eq_nil_of_le (by rw [cellsOf_len]; have := HEND.out; omega), List.nil_append, show ss.drop (k + 1) = [] from List.drop_eq_nil_of_le (by rw [← HN.out]; omega)] at h1
                exact h1
            · have hb1 : (r2.a + (j : Int) + 1 == r2.b) = false := by simpa using hend
              have HEND := hid hend
              clear c2 hend
              gi_wp2
              exact ⟨HO4.out, _, ⟨rfl, HQ1.out, (k : Int), _, HC4.out, HS.out.next HC4.out.b, .inl ⟨k, j + 1, r2, rfl, HR2.out, by have := HEND.out; omega, by omega, HD.out⟩⟩, fun z hz => Nat.lt_of_lt_of_le hz HC4.out.z, fun z hz => .inl hz, HK4.out⟩
        · have hd2 := hd
          obtain ⟨hq9, hq8⟩ := List.getElem?_eq_some_iff.1 h4
          rw [List.drop_eq_getElem_cons hq9] at hd2
          cases hd2
      case done =>
        rintro D M X2 hD ⟨-, hq, kk, xx, h1, h2, -⟩ hK
        have HF := hid (show Fin w v0.heap.size (some a) n c ss S (cellsN ss) true kk xx D X2 from ⟨h1, h2, by omega, hK, hs2⟩)
        have HAR := hid (show min S (areaL ss) = (cellsN ss : Int) by
          have := cells_len (fun s hs => ((chk_all HC.out).1 s hs).2)
          rw [← this, show cellsN ss = (cellsL ss).length from if_pos HC.out]
          rw [show cellsN ss = (cellsL ss).length from if_pos HC.out] at hq
          omega)
        clear HC0 HRX HAT h1 h2 hK
        gi_wp2
        refine wpIn_wide.2 ?_
        rename_i Kn hKn
        refine F2.wp_region_fan 17 [] (Ov X2) (by kernel_rfl) (by kernel_rfl) (by kernel_rfl) (Ov.start X2) ?_
        simp only [List.take_succ_cons, List.take_zero, List.drop_succ_cons, List.drop_zero]
        refine F2.soundD _ _ _ _ _ ?_ ((((((Is.start _ (n := 88) rfl).pin 2 (v := .pointer (some (⟨w.heap.size, 0, none⟩))) rfl).pin 3 (v := .pointer (some (⟨w.heap.size + 1, 0, none⟩))) rfl).pin 4 (v := .pointer (some (⟨w.heap.size + 1 + 1, 0, none⟩))) rfl).pin 5 (v := .pointer (some (⟨v0.heap.size, 0, none⟩))) rfl).pin 6 (v := .pointer (some (⟨v0.heap.size + 1, 0, none⟩))) rfl) rfl
        generalize (fun i => Array.getD _ i undef) = g0
        refine F2.walks_with fun KQ hKQ => ?_
        (refine F2.walks_one fun K hK => ?_); refine F2.st_read (v := .bool true) rfl rfl (fun b w h => run_loadBool rfl ((HF.out.next h).i.gV.cell 0)) ?_; refine hK _ ?_; clear hK K
        (refine F2.walks_one fun K hK => ?_); refine F2.st_pure (v := .bool false) rfl rfl (fun _ => run_not (b := true) rfl) ?_; refine hK _ ?_; clear hK K
        (refine F2.walks_one fun K hK => ?_); refine F2.st_pure (v := .bool false) rfl rfl (fun _ => rfl) ?_; refine hK _ ?_; clear hK K
        (refine F2.walks_one fun K hK => ?_); refine F2.st_skip rfl rfl rfl ?_; refine hK _ ?_; clear hK K
        (refine F2.walks_one fun K hK => ?_); refine F2.st_skip rfl rfl rfl ?_; refine hK _ ?_; clear hK K
        (refine F2.walks_one fun K hK => ?_); refine F2.st_pure (v := .bool false) rfl rfl (fun _ => run_pick (b := false) rfl) ?_; refine hK _ ?_; clear hK K
        (refine F2.walks_one fun K hK => ?_); refine F2.st_pure (v := .bool false) rfl rfl (fun _ => rfl) ?_; refine hK _ ?_; clear hK K
        (refine F2.walks_one fun K hK => ?_); refine F2.st_read (v := .bool true) rfl rfl (fun b w h => run_loadBool rfl ((HF.out.next h).i.gV.cell 0)) ?_; refine hK _ ?_; clear hK K
        (refine F2.walks_one fun K hK => ?_); refine F2.st_pure (v := .bool true) rfl rfl (fun _ => rfl) ?_; refine hK _ ?_; clear hK K
        (refine F2.walks_one fun K hK => ?_); refine F2.st_read (v := .int .i64 (cellsN ss : Int)) rfl rfl (fun b w h => run_loadInt rfl ((HF.out.next h).i.gn.cell 0)) ?_; refine hK _ ?_; clear hK K
        (refine F2.walks_one fun K hK => ?_); refine F2.st_read (v := .int .i64 S) rfl rfl (fun b w h => run_loadInt rfl ((HF.out.next h).i.s.cell 0)) ?_; refine hK _ ?_; clear hK K
        (refine F2.walks_one fun K hK => ?_); refine F2.st_read (v := .slice (some a) n c) rfl rfl (fun b w h => run_loadSl rfl ((HF.out.next h).i.r.cell 0)) ?_; refine hK _ ?_; clear hK K
        (refine F2.walks_one fun K hK => ?_); refine F2.st_call (r := .int .i64 (areaL ss)) rfl rfl (fun _ => run_call1 rfl enters_area) (fun b w h => (rarea_any (some a) ss n c w HN.out (HF.out.next h).r HC.out).mono fun e w1 k => ⟨k.1, h.next k.2⟩) ?_; refine hK _ ?_; clear hK K
        (refine F2.walks_one fun K hK => ?_); refine F2.st_pure (v := .int .i64 (min S (areaL ss))) rfl rfl (fun _ => run_min2 rfl rfl) ?_; refine hK _ ?_; clear hK K
        (refine F2.walks_one fun K hK => ?_); refine F2.st_pure (v := .bool true) rfl rfl (fun _ => (run_eqInt rfl rfl).trans (dec_t HAR.out.symm)) ?_; refine hK _ ?_; clear hK K
        (refine F2.walks_one fun K hK => ?_); refine F2.st_pure (v := .bool true) rfl rfl (fun _ => run_pick (b := true) rfl) ?_; refine hK _ ?_; clear hK K
        (refine F2.walks_one fun K hK => ?_); refine F2.st_pure (v := .bool true) rfl rfl (fun _ => run_pick (b := false) rfl) ?_; refine hK _ ?_; clear hK K
        refine F2.walks_end fun a9 ha9 => hKQ _ fun w1 hC => ?_
        have HFZ := hid (HF.out.next hC)
        refine sq_skipD ha9 (run_storeBool (b := true) rfl rfl (HFZ.out.i.o.cell 0) (HFZ.out.i.o.free 0)) fun a10 ha10 => ?_
        refine wpList_nil ?_
        refine hKn _ _ ?_
        obtain ⟨g9, hg9, k4⟩ : ∃ g9, Is a10 88 g9 ∧ g9 4 = .pointer (some (⟨w.heap.size + 1 + 1, 0, none⟩)) := ⟨_, ha10, rfl⟩
        have hw := hg9.whole
        rw [show ((List.range 88).map g9).toArray = #[g9 0, g9 1, g9 2, g9 3, g9 4, g9 5, g9 6, g9 7, g9 8, g9 9, g9 10, g9 11, g9 12, g9 13, g9 14, g9 15, g9 16, g9 17, g9 18, g9 19, g9 20, g9 21, g9 22, g9 23, g9 24, g9 25, g9 26, g9 27, g9 28, g9 29, g9 30, g9 31, g9 32, g9 33, g9 34, g9 35, g9 36, g9 37, g9 38, g9 39, g9 40, g9 41, g9 42, g9 43, g9 44, g9 45, g9 46, g9 47, g9 48, g9 49, g9 50, g9 51, g9 52, g9 53, g9 54, g9 55, g9 56, g9 57, g9 58, g9 59, g9 60, g9 61, g9 62, g9 63, g9 64, g9 65, g9 66, g9 67, g9 68, g9 69, g9 70, g9 71, g9 72, g9 73, g9 74, g9 75, g9 76, g9 77, g9 78, g9 79, g9 80, g9 81, g9 82, g9 83, g9 84, g9 85, g9 86, g9 87] from rfl] at hw
        rw [k4] at hw
        subst hw
        clear hg9 k4
        dsimp only [wd]
        clear ha9 ha10 hC hKQ KQ hKn
        gi_wp2
        exact cio_end HFZ.out rfl

      case stop =>
        rintro D cd j X2 hD hj ⟨rfl, hj2, q, kk, xx, hq, h1, h2⟩ hK
        have HF := hid (show Fin w v0.heap.size (some a) n c ss S q true kk xx D X2 from ⟨h1, h2, by omega, hK, hs2⟩)
        have HAR := hid (show min S (areaL ss) = (q : Int) by
          have := cells_len (fun s hs => ((chk_all HC.out).1 s hs).2)
          rw [show cellsN ss = (cellsL ss).length from if_pos HC.out] at hj
          rw [← this]
          omega)
        clear HC0 HRX HAT h1 h2 hK
        gi_wp2
        refine wpIn_wide.2 ?_
        rename_i Kn hKn
        refine F2.wp_region_fan 17 [] (Ov X2) (by kernel_rfl) (by kernel_rfl) (by kernel_rfl) (Ov.start X2) ?_
        simp only [List.take_succ_cons, List.take_zero, List.drop_succ_cons, List.drop_zero]
        refine F2.soundD _ _ _ _ _ ?_ ((((((Is.start _ (n := 88) rfl).pin 2 (v := .pointer (some (⟨w.heap.size, 0, none⟩))) rfl).pin 3 (v := .pointer (some (⟨w.heap.size + 1, 0, none⟩))) rfl).pin 4 (v := .pointer (some (⟨w.heap.size + 1 + 1, 0, none⟩))) rfl).pin 5 (v := .pointer (some (⟨v0.heap.size, 0, none⟩))) rfl).pin 6 (v := .pointer (some (⟨v0.heap.size + 1, 0, none⟩))) rfl) rfl
        generalize (fun i => Array.getD _ i undef) = g0
        refine F2.walks_with fun KQ hKQ => ?_
        (refine F2.walks_one fun K hK => ?_); refine F2.st_read (v := .bool true) rfl rfl (fun b w h => run_loadBool rfl ((HF.out.next h).i.gV.cell 0)) ?_; refine hK _ ?_; clear hK K
        (refine F2.walks_one fun K hK => ?_); refine F2.st_pure (v := .bool false) rfl rfl (fun _ => run_not (b := true) rfl) ?_; refine hK _ ?_; clear hK K
        (refine F2.walks_one fun K hK => ?_); refine F2.st_pure (v := .bool false) rfl rfl (fun _ => rfl) ?_; refine hK _ ?_; clear hK K
        (refine F2.walks_one fun K hK => ?_); refine F2.st_skip rfl rfl rfl ?_; refine hK _ ?_; clear hK K
        (refine F2.walks_one fun K hK => ?_); refine F2.st_skip rfl rfl rfl ?_; refine hK _ ?_; clear hK K
        (refine F2.walks_one fun K hK => ?_); refine F2.st_pure (v := .bool false) rfl rfl (fun _ => run_pick (b := false) rfl) ?_; refine hK _ ?_; clear hK K
        (refine F2.walks_one fun K hK => ?_); refine F2.st_pure (v := .bool false) rfl rfl (fun _ => rfl) ?_; refine hK _ ?_; clear hK K
        (refine F2.walks_one fun K hK => ?_); refine F2.st_read (v := .bool true) rfl rfl (fun b w h => run_loadBool rfl ((HF.out.next h).i.gV.cell 0)) ?_; refine hK _ ?_; clear hK K
        (refine F2.walks_one fun K hK => ?_); refine F2.st_pure (v := .bool true) rfl rfl (fun _ => rfl) ?_; refine hK _ ?_; clear hK K
        (refine F2.walks_one fun K hK => ?_); refine F2.st_read (v := .int .i64 (q : Int)) rfl rfl (fun b w h => run_loadInt rfl ((HF.out.next h).i.gn.cell 0)) ?_; refine hK _ ?_; clear hK K
        (refine F2.walks_one fun K hK => ?_); refine F2.st_read (v := .int .i64 S) rfl rfl (fun b w h => run_loadInt rfl ((HF.out.next h).i.s.cell 0)) ?_; refine hK _ ?_; clear hK K
        (refine F2.walks_one fun K hK => ?_); refine F2.st_read (v := .slice (some a) n c) rfl rfl (fun b w h => run_loadSl rfl ((HF.out.next h).i.r.cell 0)) ?_; refine hK _ ?_; clear hK K
        (refine F2.walks_one fun K hK => ?_); refine F2.st_call (r := .int .i64 (areaL ss)) rfl rfl (fun _ => run_call1 rfl enters_area) (fun b w h => (rarea_any (some a) ss n c w HN.out (HF.out.next h).r HC.out).mono fun e w1 k => ⟨k.1, h.next k.2⟩) ?_; refine hK _ ?_; clear hK K
        (refine F2.walks_one fun K hK => ?_); refine F2.st_pure (v := .int .i64 (min S (areaL ss))) rfl rfl (fun _ => run_min2 rfl rfl) ?_; refine hK _ ?_; clear hK K
        (refine F2.walks_one fun K hK => ?_); refine F2.st_pure (v := .bool true) rfl rfl (fun _ => (run_eqInt rfl rfl).trans (dec_t HAR.out.symm)) ?_; refine hK _ ?_; clear hK K
        (refine F2.walks_one fun K hK => ?_); refine F2.st_pure (v := .bool true) rfl rfl (fun _ => run_pick (b := true) rfl) ?_; refine hK _ ?_; clear hK K
        (refine F2.walks_one fun K hK => ?_); refine F2.st_pure (v := .bool true) rfl rfl (fun _ => run_pick (b := false) rfl) ?_; refine hK _ ?_; clear hK K
        refine F2.walks_end fun a9 ha9 => hKQ _ fun w1 hC => ?_
        have HFZ := hid (HF.out.next hC)
        refine sq_skipD ha9 (run_storeBool (b := true) rfl rfl (HFZ.out.i.o.cell 0) (HFZ.out.i.o.free 0)) fun a10 ha10 => ?_
        refine wpList_nil ?_
        refine hKn _ _ ?_
        obtain ⟨g9, hg9, k4⟩ : ∃ g9, Is a10 88 g9 ∧ g9 4 = .pointer (some (⟨w.heap.size + 1 + 1, 0, none⟩)) := ⟨_, ha10, rfl⟩
        have hw := hg9.whole
        rw [show ((List.range 88).map g9).toArray = #[g9 0, g9 1, g9 2, g9 3, g9 4, g9 5, g9 6, g9 7, g9 8, g9 9, g9 10, g9 11, g9 12, g9 13, g9 14, g9 15, g9 16, g9 17, g9 18, g9 19, g9 20, g9 21, g9 22, g9 23, g9 24, g9 25, g9 26, g9 27, g9 28, g9 29, g9 30, g9 31, g9 32, g9 33, g9 34, g9 35, g9 36, g9 37, g9 38, g9 39, g9 40, g9 41, g9 42, g9 43, g9 44, g9 45, g9 46, g9 47, g9 48, g9 49, g9 50, g9 51, g9 52, g9 53, g9 54, g9 55, g9 56, g9 57, g9 58, g9 59, g9 60, g9 61, g9 62, g9 63, g9 64, g9 65, g9 66, g9 67, g9 68, g9 69, g9 70, g9 71, g9 72, g9 73, g9 74, g9 75, g9 76, g9 77, g9 78, g9 79, g9 80, g9 81, g9 82, g9 83, g9 84, g9 85, g9 86, g9 87] from rfl] at hw
        rw [k4] at hw
        subst hw
        clear hg9 k4
        dsimp only [wd]
        clear ha9 ha10 hC hKQ KQ hKn
        gi_wp2
        exact cio_end HFZ.out rfl

    · have he : ss = [] := List.length_eq_zero_iff.1 (by rw [← HN.out]; exact hnil)
      have hz1 : ¬ 0 < n := by omega
      clear hnil
      have HCN : Hid (cellsN ss = 0) := hid (by rw [he]; rfl)
      have HAR : Hid (min S (areaL ss) = (cellsN ss : Int)) := hid (by rw [HCN.out, he]; show min S 0 = 0; omega)
      gi_wp2
      refine ⟨trivial, ?_⟩
      refine (callsIn_wide.2 (cells_make _ _ _ _)).mono ?_
      rintro e X ⟨rfl, hX⟩
      have HC0 := hid (show Cio w v0.heap.size A n c S 0 true 0 (0) X by rw [hX]; exact Cio.start _ hs2 HSA.out HWB.out HW0.out HW1.out HW2.out HW3.out HW4.out)
      rw [show (((Wa.setCell ⟨w.heap.size + 1, 0, none⟩ (.int .i64 S)).alloc (.cells #[.int .i64 0] 3)).alloc (.cells #[.int .i64 (0)] 3)).heap.size = v0.heap.size + 4 from by rw [World.size_alloc, World.size_alloc, World.size_setCell, HSA.out]]
      have sX : X.heap.size = v0.heap.size + 5 := by rw [hX, World.size_alloc, World.size_alloc, World.size_alloc, World.size_setCell, HSA.out]
      have HRX := hid (HS.out.next HC0.out.b)
      rw [HSA.out]
      clear hX HW0 HW1 HW2 HW3 HW4 HWB HSA q0 q1 f1 u0 u1
      gi_wp2
      refine range_all (gf := 50) (lb := #[.pointer (some ⟨v0.heap.size + 4, 0, none⟩)]) rfl (by omega) rfl trivial (enters_of Try.func50 (by kernel_rfl) rfl) (CellAt ss) (cellsN ss)
        (fun q M X => ∃ kk xx, Cio w v0.heap.size A n c S q true kk xx X ∧ Runs X A ss) (fun cd j X => False)
        (cells_iter 5 (by omega) (v0.heap.size + 4) A ss n c _ HN.out hm (fun q M X h => by obtain ⟨kk, xx, h1, h2⟩ := h; exact ⟨h1.gc.cell 0, h2⟩)) (fun q v X h => by obtain ⟨p, -, rfl⟩ := h; rfl)
        (fun q M X Y h hb => by obtain ⟨kk, xx, h1, h2⟩ := h; exact ⟨kk, xx, h1.next hb, h2.next hb⟩)
        (fun q M X l o o' h hl ho e1 e2 => by obtain ⟨kk, xx, h1, h2⟩ := h; exact ⟨kk, xx, h1.put hs2 o' (by omega) ho e1 e2, h2.putC o' ho e1⟩)
        (fun cd q X l o o' h hl ho e1 e2 => h.elim)
        (fun z => False) (fun q h => h.elim) ⟨0, 0, HC0.out, HRX.out⟩
        (fun q M v a' X => False) (fun q M v a' X l o o' h hl ho e1 e2 => h.elim)
        ?assign ?body ?done ?stop
      case assign =>
        intro l q M v X K h1 hM hp hk hK
        rw [HCN.out] at hk
        exact absurd hk (by omega)
      case body =>
        intro l q M v a' X h hk
        exact h.elim
      case done =>
        rintro D M X2 hD ⟨kk, xx, h1, h2⟩ hK
        have HF := hid (show Fin w v0.heap.size A n c ss S (cellsN ss) true kk xx D X2 from ⟨h1, h2, by omega, hK, hs2⟩)
        clear HC0 HRX h1 h2 hK
        gi_wp2
        refine wpIn_wide.2 ?_
        rename_i Kn hKn
        refine F2.wp_region_fan 17 [] (Ov X2) (by kernel_rfl) (by kernel_rfl) (by kernel_rfl) (Ov.start X2) ?_
        simp only [List.take_succ_cons, List.take_zero, List.drop_succ_cons, List.drop_zero]
        refine F2.soundD _ _ _ _ _ ?_ ((((((Is.start _ (n := 88) rfl).pin 2 (v := .pointer (some (⟨w.heap.size, 0, none⟩))) rfl).pin 3 (v := .pointer (some (⟨w.heap.size + 1, 0, none⟩))) rfl).pin 4 (v := .pointer (some (⟨w.heap.size + 1 + 1, 0, none⟩))) rfl).pin 5 (v := .pointer (some (⟨v0.heap.size, 0, none⟩))) rfl).pin 6 (v := .pointer (some (⟨v0.heap.size + 1, 0, none⟩))) rfl) rfl
        generalize (fun i => Array.getD _ i undef) = g0
        refine F2.walks_with fun KQ hKQ => ?_
        (refine F2.walks_one fun K hK => ?_); refine F2.st_read (v := .bool true) rfl rfl (fun b w h => run_loadBool rfl ((HF.out.next h).i.gV.cell 0)) ?_; refine hK _ ?_; clear hK K
        (refine F2.walks_one fun K hK => ?_); refine F2.st_pure (v := .bool false) rfl rfl (fun _ => run_not (b := true) rfl) ?_; refine hK _ ?_; clear hK K
        (refine F2.walks_one fun K hK => ?_); refine F2.st_pure (v := .bool false) rfl rfl (fun _ => rfl) ?_; refine hK _ ?_; clear hK K
        (refine F2.walks_one fun K hK => ?_); refine F2.st_skip rfl rfl rfl ?_; refine hK _ ?_; clear hK K
        (refine F2.walks_one fun K hK => ?_); refine F2.st_skip rfl rfl rfl ?_; refine hK _ ?_; clear hK K
        (refine F2.walks_one fun K hK => ?_); refine F2.st_pure (v := .bool false) rfl rfl (fun _ => run_pick (b := false) rfl) ?_; refine hK _ ?_; clear hK K
        (refine F2.walks_one fun K hK => ?_); refine F2.st_pure (v := .bool false) rfl rfl (fun _ => rfl) ?_; refine hK _ ?_; clear hK K
        (refine F2.walks_one fun K hK => ?_); refine F2.st_read (v := .bool true) rfl rfl (fun b w h => run_loadBool rfl ((HF.out.next h).i.gV.cell 0)) ?_; refine hK _ ?_; clear hK K
        (refine F2.walks_one fun K hK => ?_); refine F2.st_pure (v := .bool true) rfl rfl (fun _ => rfl) ?_; refine hK _ ?_; clear hK K
        (refine F2.walks_one fun K hK => ?_); refine F2.st_read (v := .int .i64 (cellsN ss : Int)) rfl rfl (fun b w h => run_loadInt rfl ((HF.out.next h).i.gn.cell 0)) ?_; refine hK _ ?_; clear hK K
        (refine F2.walks_one fun K hK => ?_); refine F2.st_read (v := .int .i64 S) rfl rfl (fun b w h => run_loadInt rfl ((HF.out.next h).i.s.cell 0)) ?_; refine hK _ ?_; clear hK K
        (refine F2.walks_one fun K hK => ?_); refine F2.st_read (v := .slice A n c) rfl rfl (fun b w h => run_loadSl rfl ((HF.out.next h).i.r.cell 0)) ?_; refine hK _ ?_; clear hK K
        (refine F2.walks_one fun K hK => ?_); refine F2.st_call (r := .int .i64 (areaL ss)) rfl rfl (fun _ => run_call1 rfl enters_area) (fun b w h => (rarea_any (A) ss n c w HN.out (HF.out.next h).r HC.out).mono fun e w1 k => ⟨k.1, h.next k.2⟩) ?_; refine hK _ ?_; clear hK K
        (refine F2.walks_one fun K hK => ?_); refine F2.st_pure (v := .int .i64 (min S (areaL ss))) rfl rfl (fun _ => run_min2 rfl rfl) ?_; refine hK _ ?_; clear hK K
        (refine F2.walks_one fun K hK => ?_); refine F2.st_pure (v := .bool true) rfl rfl (fun _ => (run_eqInt rfl rfl).trans (dec_t HAR.out.symm)) ?_; refine hK _ ?_; clear hK K
        (refine F2.walks_one fun K hK => ?_); refine F2.st_pure (v := .bool true) rfl rfl (fun _ => run_pick (b := true) rfl) ?_; refine hK _ ?_; clear hK K
        (refine F2.walks_one fun K hK => ?_); refine F2.st_pure (v := .bool true) rfl rfl (fun _ => run_pick (b := false) rfl) ?_; refine hK _ ?_; clear hK K
        refine F2.walks_end fun a9 ha9 => hKQ _ fun w1 hC => ?_
        have HFZ := hid (HF.out.next hC)
        refine sq_skipD ha9 (run_storeBool (b := true) rfl rfl (HFZ.out.i.o.cell 0) (HFZ.out.i.o.free 0)) fun a10 ha10 => ?_
        refine wpList_nil ?_
        refine hKn _ _ ?_
        obtain ⟨g9, hg9, k4⟩ : ∃ g9, Is a10 88 g9 ∧ g9 4 = .pointer (some (⟨w.heap.size + 1 + 1, 0, none⟩)) := ⟨_, ha10, rfl⟩
        have hw := hg9.whole
        rw [show ((List.range 88).map g9).toArray = #[g9 0, g9 1, g9 2, g9 3, g9 4, g9 5, g9 6, g9 7, g9 8, g9 9, g9 10, g9 11, g9 12, g9 13, g9 14, g9 15, g9 16, g9 17, g9 18, g9 19, g9 20, g9 21, g9 22, g9 23, g9 24, g9 25, g9 26, g9 27, g9 28, g9 29, g9 30, g9 31, g9 32, g9 33, g9 34, g9 35, g9 36, g9 37, g9 38, g9 39, g9 40, g9 41, g9 42, g9 43, g9 44, g9 45, g9 46, g9 47, g9 48, g9 49, g9 50, g9 51, g9 52, g9 53, g9 54, g9 55, g9 56, g9 57, g9 58, g9 59, g9 60, g9 61, g9 62, g9 63, g9 64, g9 65, g9 66, g9 67, g9 68, g9 69, g9 70, g9 71, g9 72, g9 73, g9 74, g9 75, g9 76, g9 77, g9 78, g9 79, g9 80, g9 81, g9 82, g9 83, g9 84, g9 85, g9 86, g9 87] from rfl] at hw
        rw [k4] at hw
        subst hw
        clear hg9 k4
        dsimp only [wd]
        clear ha9 ha10 hC hKQ KQ hKn
        gi_wp2
        exact cio_end HFZ.out rfl
      case stop =>
        intro D cd j X2 hD hj h hK
        exact h.elim
  · have HC := hid hc
    have hc' : (chk ss == 0) = false := by simpa using hc
    have HCN : Hid (cellsN ss = 0) := hid (if_neg hc)
    have HZ : Hid ((cellsN ss : Int) = 0) := hid (by rw [HCN.out]; rfl)
    have hpos : (0 : Int) < (n : Int) := by
      rcases Nat.eq_zero_or_pos n with e | e
      · exact absurd (by rw [List.length_eq_zero_iff.1 (HN.out.symm.trans e)]; rfl) hc
      · omega
    clear hc
    have hsa : ((v0.alloc (.cells #[.int .i64 0] 3)).alloc (.cells #[.bool false] 4)).heap.size = v0.heap.size + 2 := by simp
    have HW0 := hid ((HA0.out.alloc (.cells #[.int .i64 0] 3)).alloc (.cells #[.bool false] 4))
    have HW1 := hid ((HA1.out.alloc (.cells #[.int .i64 0] 3)).alloc (.cells #[.bool false] 4))
    have HW2 := hid ((HA2.out.alloc (.cells #[.int .i64 0] 3)).alloc (.cells #[.bool false] 4))
    have HW3 := hid ((Var.new v0 #[.int .i64 0] 3 _ rfl).alloc (.cells #[.bool false] 4))
    have HW4 := hid (Var.new (v0.alloc (.cells #[.int .i64 0] 3)) #[.bool false] 4 (v0.heap.size + 1) (by simp))
    have HWB := hid (below_alloc (below_alloc HB2.out (.cells #[.int .i64 0] 3)) (.cells #[.bool false] 4))
    have HSA := hid hsa
    gi_wp2
    clear hsa q0 q1 f1 HA0 HA1 HA2 HB2
    generalize (v0.alloc (.cells #[.int .i64 0] 3)).alloc (.cells #[.bool false] 4) = Wa at HW0 HW1 HW2 HW3 HW4 HWB HSA ⊢
    refine ⟨trivial, ?_⟩
    refine (callsIn_wide.2 (cutl_val x1 0 300 _ (by omega) (by omega) (by omega) (by omega))).mono ?_
    rintro e w3 ⟨S, hS0, hS9, rfl, rfl⟩
    have q0 := HW0.out.cell 0
    have q1 := HW1.out.cell 0
    simp only [List.getElem?_toArray, List.getElem?_cons_zero] at q0 q1
    have f1 := HW1.out.free 0
    have u0 : w.heap.size < Wa.heap.size := HW0.out.lt
    have u1 : w.heap.size + 1 < Wa.heap.size := HW1.out.lt
    have hz : 0 < ss.length := by rw [← HN.out]; omega
    obtain ⟨a, rfl, hal, hsr⟩ := (HS.out.next HWB.out).at_ hz
    obtain ⟨r, hr⟩ : ∃ r, r = ss[0] := ⟨_, rfl⟩
    rw [← hr] at hsr
    have HR0 := hid hr
    obtain ⟨-, c1, -⟩ := hsr
    rw [show (a.add (0 * 3)).off = a.off by unfold Addr.add; split <;> simp_all, add_block] at c1
    have hax : a.block < w.heap.size := by obtain ⟨a', e', hl', -⟩ := HS.out (by intro e; rw [e] at hz; simp at hz); cases e'; exact hl'
    have c1' : (((Wa.setCell ⟨w.heap.size + 1, 0, none⟩ (.int .i64 S)).alloc (.cells #[.int .i64 0] 3)).alloc (.cells #[.int .i64 0] 3)).cell? ⟨a.block, a.off + 1, none⟩ = some (.int .i64 r.a) := by
      refine (World.cell?_of_block (Below.heap_alloc _ _ _ ?_)).trans ((World.cell?_of_block (Below.heap_alloc _ _ _ ?_)).trans ((World.cell?_of_block (Below.heap_setCell _ _ _ _ ?_)).trans c1))
      · rw [World.size_alloc, World.size_setCell]; show a.block < _; omega
      · rw [World.size_setCell]; show a.block < _; omega
      · show a.block ≠ w.heap.size + 1; omega
    clear hr c1
    gi_wp2
    refine ⟨trivial, ?_⟩
    refine (callsIn_wide.2 (cells_make _ _ _ _)).mono ?_
    rintro e X ⟨rfl, hX⟩
    have HC0 := hid (show Cio w v0.heap.size (some a) n c S 0 false 0 (r.a) X by rw [hX]; exact Cio.start _ hs2 HSA.out HWB.out HW0.out HW1.out HW2.out HW3.out HW4.out)
    rw [show (((Wa.setCell ⟨w.heap.size + 1, 0, none⟩ (.int .i64 S)).alloc (.cells #[.int .i64 0] 3)).alloc (.cells #[.int .i64 (r.a)] 3)).heap.size = v0.heap.size + 4 from by rw [World.size_alloc, World.size_alloc, World.size_setCell, HSA.out]]
    have sX : X.heap.size = v0.heap.size + 5 := by rw [hX, World.size_alloc, World.size_alloc, World.size_alloc, World.size_setCell, HSA.out]
    have HRX := hid (HS.out.next HC0.out.b)
    rw [HSA.out]
    clear hX HW0 HW1 HW2 HW3 HW4 HWB HSA q0 q1 f1 u0 u1 c1' hal
    gi_wp2
    refine range_all (gf := 50) (lb := #[.pointer (some ⟨v0.heap.size + 4, 0, none⟩)]) rfl (by omega) rfl trivial (enters_of Try.func50 (by kernel_rfl) rfl) (CellAt ss) (cellsN ss)
      (fun q M X => ∃ kk xx, Cio w v0.heap.size (some a) n c S q false kk xx X ∧ Runs X (some a) ss) (fun cd j X => False)
      (cells_iter 5 (by omega) (v0.heap.size + 4) (some a) ss n c _ HN.out hm (fun q M X h => by obtain ⟨kk, xx, h1, h2⟩ := h; exact ⟨h1.gc.cell 0, h2⟩)) (fun q v X h => by obtain ⟨p, -, rfl⟩ := h; rfl)
      (fun q M X Y h hb => by obtain ⟨kk, xx, h1, h2⟩ := h; exact ⟨kk, xx, h1.next hb, h2.next hb⟩)
      (fun q M X l o o' h hl ho e1 e2 => by obtain ⟨kk, xx, h1, h2⟩ := h; exact ⟨kk, xx, h1.put hs2 o' (by omega) ho e1 e2, h2.putC o' ho e1⟩)
      (fun cd q X l o o' h hl ho e1 e2 => h.elim)
      (fun z => False) (fun q h => h.elim) ⟨0, r.a, HC0.out, HRX.out⟩
      (fun q M v a' X => False) (fun q M v a' X l o o' h hl ho e1 e2 => h.elim)
      ?assign ?body ?done ?stop
    case assign =>
      intro l q M v X K h1 hM hp hk hK
      rw [HCN.out] at hk
      exact absurd hk (by omega)
    case body =>
      intro l q M v a' X h hk
      exact h.elim
    case done =>
      rintro D M X2 hD ⟨kk, xx, h1, h2⟩ hK
      have HF := hid (show Fin w v0.heap.size (some a) n c ss S (cellsN ss) false kk xx D X2 from ⟨h1, h2, by omega, hK, hs2⟩)
      clear HC0 HRX h1 h2 hK
      gi_wp2
      refine wpIn_wide.2 ?_
      rename_i Kn hKn
      refine F2.wp_region_fan 17 [] (Ov X2) (by kernel_rfl) (by kernel_rfl) (by kernel_rfl) (Ov.start X2) ?_
      simp only [List.take_succ_cons, List.take_zero, List.drop_succ_cons, List.drop_zero]
      refine F2.soundD _ _ _ _ _ ?_ ((((((Is.start _ (n := 88) rfl).pin 2 (v := .pointer (some (⟨w.heap.size, 0, none⟩))) rfl).pin 3 (v := .pointer (some (⟨w.heap.size + 1, 0, none⟩))) rfl).pin 4 (v := .pointer (some (⟨w.heap.size + 1 + 1, 0, none⟩))) rfl).pin 5 (v := .pointer (some (⟨v0.heap.size, 0, none⟩))) rfl).pin 6 (v := .pointer (some (⟨v0.heap.size + 1, 0, none⟩))) rfl) rfl
      generalize (fun i => Array.getD _ i undef) = g0
      refine F2.walks_with fun KQ hKQ => ?_
      (refine F2.walks_one fun K hK => ?_); refine F2.st_read (v := .bool false) rfl rfl (fun b w h => run_loadBool rfl ((HF.out.next h).i.gV.cell 0)) ?_; refine hK _ ?_; clear hK K
      (refine F2.walks_one fun K hK => ?_); refine F2.st_pure (v := .bool true) rfl rfl (fun _ => run_not (b := false) rfl) ?_; refine hK _ ?_; clear hK K
      (refine F2.walks_one fun K hK => ?_); refine F2.st_pure (v := .bool true) rfl rfl (fun _ => rfl) ?_; refine hK _ ?_; clear hK K
      (refine F2.walks_one fun K hK => ?_); refine F2.st_read (v := .int .i64 (cellsN ss : Int)) rfl rfl (fun b w h => run_loadInt rfl ((HF.out.next h).i.gn.cell 0)) ?_; refine hK _ ?_; clear hK K
      (refine F2.walks_one fun K hK => ?_); refine F2.st_pure (v := .bool true) rfl rfl (fun _ => (run_eqInt rfl rfl).trans (dec_t HZ.out)) ?_; refine hK _ ?_; clear hK K
      (refine F2.walks_one fun K hK => ?_); refine F2.st_pure (v := .bool true) rfl rfl (fun _ => run_pick (b := true) rfl) ?_; refine hK _ ?_; clear hK K
      (refine F2.walks_one fun K hK => ?_); refine F2.st_pure (v := .bool true) rfl rfl (fun _ => rfl) ?_; refine hK _ ?_; clear hK K
      (refine F2.walks_one fun K hK => ?_); refine F2.st_skip rfl rfl rfl ?_; refine hK _ ?_; clear hK K
      (refine F2.walks_one fun K hK => ?_); refine F2.st_skip rfl rfl rfl ?_; refine hK _ ?_; clear hK K
      (refine F2.walks_one fun K hK => ?_); refine F2.st_skip rfl rfl rfl ?_; refine hK _ ?_; clear hK K
      (refine F2.walks_one fun K hK => ?_); refine F2.st_skip rfl rfl rfl ?_; refine hK _ ?_; clear hK K
      (refine F2.walks_one fun K hK => ?_); refine F2.st_skip rfl rfl rfl ?_; refine hK _ ?_; clear hK K
      (refine F2.walks_one fun K hK => ?_); refine F2.st_skip rfl rfl rfl ?_; refine hK _ ?_; clear hK K
      (refine F2.walks_one fun K hK => ?_); refine F2.st_skip rfl rfl rfl ?_; refine hK _ ?_; clear hK K
      (refine F2.walks_one fun K hK => ?_); refine F2.st_skip rfl rfl rfl ?_; refine hK _ ?_; clear hK K
      (refine F2.walks_one fun K hK => ?_); refine F2.st_skip rfl rfl rfl ?_; refine hK _ ?_; clear hK K
      (refine F2.walks_one fun K hK => ?_); refine F2.st_pure (v := .bool true) rfl rfl (fun _ => run_pick (b := true) rfl) ?_; refine hK _ ?_; clear hK K
      refine F2.walks_end fun a9 ha9 => hKQ _ fun w1 hC => ?_
      have HFZ := hid (HF.out.next hC)
      refine sq_skipD ha9 (run_storeBool (b := true) rfl rfl (HFZ.out.i.o.cell 0) (HFZ.out.i.o.free 0)) fun a10 ha10 => ?_
      refine wpList_nil ?_
      refine hKn _ _ ?_
      obtain ⟨g9, hg9, k4⟩ : ∃ g9, Is a10 88 g9 ∧ g9 4 = .pointer (some (⟨w.heap.size + 1 + 1, 0, none⟩)) := ⟨_, ha10, rfl⟩
      have hw := hg9.whole
      rw [show ((List.range 88).map g9).toArray = #[g9 0, g9 1, g9 2, g9 3, g9 4, g9 5, g9 6, g9 7, g9 8, g9 9, g9 10, g9 11, g9 12, g9 13, g9 14, g9 15, g9 16, g9 17, g9 18, g9 19, g9 20, g9 21, g9 22, g9 23, g9 24, g9 25, g9 26, g9 27, g9 28, g9 29, g9 30, g9 31, g9 32, g9 33, g9 34, g9 35, g9 36, g9 37, g9 38, g9 39, g9 40, g9 41, g9 42, g9 43, g9 44, g9 45, g9 46, g9 47, g9 48, g9 49, g9 50, g9 51, g9 52, g9 53, g9 54, g9 55, g9 56, g9 57, g9 58, g9 59, g9 60, g9 61, g9 62, g9 63, g9 64, g9 65, g9 66, g9 67, g9 68, g9 69, g9 70, g9 71, g9 72, g9 73, g9 74, g9 75, g9 76, g9 77, g9 78, g9 79, g9 80, g9 81, g9 82, g9 83, g9 84, g9 85, g9 86, g9 87] from rfl] at hw
      rw [k4] at hw
      subst hw
      clear hg9 k4
      dsimp only [wd]
      clear ha9 ha10 hC hKQ KQ hKn
      gi_wp2
      exact cio_end HFZ.out rfl
    case stop =>
      intro D cd j X2 hD hj h hK
      exact h.elim
end Go.Proofs.Ytldbpabnfjnpbaa
