/- A law that goes over the rows of a raster. -/
import Derived.Test.YtdjjijkdalpggaaIter
import Derived.Test.YtdjjijkdalpggaaKnown
namespace Go.Proofs.Ytdjjijkdalpggaa
open Go Go.RowKit Go.Shelf
attribute [local go_sem] Oper.semAt_some
set_option linter.unusedVariables false

/-- Round k of the law's loop begins. -/
def Over (w v0 : World) (S W H x0 N c0 : Nat) (f : Nat → Int) (k : Nat) (A : World) : Prop :=
  A.cell? ⟨w.heap.size, 0, none⟩ = some (.int .i64 S) ∧ (A.cell? ⟨w.heap.size + 1, 0, none⟩ = some (.bool false) ∧ A.frozen? ⟨w.heap.size + 1, 0, none⟩ = false) ∧
  Boxed3 A v0.heap.size (.int .i64 W) (.int .i64 H) (.slice (some ⟨x0, 0, none⟩) N c0) ∧ Num A (v0.heap.size + 1) k ∧ Src W H (v0.heap.size + 2) x0 N c0 f A ∧ Below w.heap.size w A

theorem Over.below {w v0 : World} {S W H x0 N c0 : Nat} {f : Nat → Int} {k : Nat} {A C : World} {B : Nat} (h : Over w v0 S W H x0 N c0 f k A) (hb : Below B A C) (hB : v0.heap.size + 3 ≤ B)
    (hs : w.heap.size + 2 ≤ v0.heap.size) (m0 : x0 < v0.heap.size) : Over w v0 S W H x0 N c0 f k C := by
  obtain ⟨h1, ⟨h2, h3⟩, ⟨h4, h5, h6⟩, ⟨h7, h8⟩, ⟨⟨h9, h10, h11⟩, h12, h13⟩, h14⟩ := h
  refine ⟨(hb.cell (p := ⟨_, _, none⟩) (by show w.heap.size < B; omega)).trans h1, ⟨(hb.cell (p := ⟨_, _, none⟩) (by show w.heap.size + 1 < B; omega)).trans h2, (hb.frozen (p := ⟨_, _, none⟩) (by show w.heap.size + 1 < B; omega)).trans h3⟩,
    ⟨(hb.cell (p := ⟨_, _, none⟩) (by show v0.heap.size < B; omega)).trans h4, (hb.cell (p := ⟨_, _, none⟩) (by show v0.heap.size < B; omega)).trans h5, (hb.cell (p := ⟨_, _, none⟩) (by show v0.heap.size < B; omega)).trans h6⟩,
    ⟨(hb.cell (p := ⟨_, _, none⟩) (by show v0.heap.size + 1 < B; omega)).trans h7, (hb.frozen (p := ⟨_, _, none⟩) (by show v0.heap.size + 1 < B; omega)).trans h8⟩,
    ⟨⟨(hb.cell (p := ⟨_, _, none⟩) (by show v0.heap.size + 2 < B; omega)).trans h9, (hb.cell (p := ⟨_, _, none⟩) (by show v0.heap.size + 2 < B; omega)).trans h10, (hb.cell (p := ⟨_, _, none⟩) (by show v0.heap.size + 2 < B; omega)).trans h11⟩,
      h12.below hb (by omega), Nat.lt_of_lt_of_le h13 hb.size⟩, h14.trans (hb.mono (by omega))⟩

theorem Over.next {w v0 : World} {S W H x0 N c0 : Nat} {f : Nat → Int} {k : Nat} {A : World} (h : Over w v0 S W H x0 N c0 f k A) (k' : Nat)
    (hs : w.heap.size + 2 ≤ v0.heap.size) (m0 : x0 < v0.heap.size) : Over w v0 S W H x0 N c0 f k' (A.setCell ⟨v0.heap.size + 1, 0, none⟩ (.int .i64 k')) := by
  obtain ⟨h1, ⟨h2, h3⟩, ⟨h4, h5, h6⟩, h7, ⟨⟨h9, h10, h11⟩, h12, h13⟩, h14⟩ := h
  have far : ∀ b o, b ≠ v0.heap.size + 1 → (A.setCell ⟨v0.heap.size + 1, 0, none⟩ (.int .i64 k')).cell? ⟨b, o, none⟩ = A.cell? ⟨b, o, none⟩ := fun b o hb => World.cell?_of_block (Below.heap_setCell _ _ _ _ hb)
  have farf : ∀ b o, b ≠ v0.heap.size + 1 → (A.setCell ⟨v0.heap.size + 1, 0, none⟩ (.int .i64 k')).frozen? ⟨b, o, none⟩ = A.frozen? ⟨b, o, none⟩ := fun b o hb => World.frozen?_of_block (Below.heap_setCell _ _ _ _ hb)
  refine ⟨(far _ _ (by omega)).trans h1, ⟨(far _ _ (by omega)).trans h2, (farf _ _ (by omega)).trans h3⟩, ⟨(far _ _ (by omega)).trans h4, (far _ _ (by omega)).trans h5, (far _ _ (by omega)).trans h6⟩, h7.set _,
    ⟨⟨(far _ _ (by omega)).trans h9, (far _ _ (by omega)).trans h10, (far _ _ (by omega)).trans h11⟩, fun i hi => (far _ _ (by omega)).trans (h12 i hi), by rw [World.size_setCell]; exact h13⟩, h14.setCell (p := ⟨v0.heap.size + 1, 0, none⟩) (by show w.heap.size ≤ v0.heap.size + 1; omega) _⟩

theorem others_below {A B : World} (h : Below A.heap.size A B) : KeepsOthers A B := ⟨h.size, fun k o hk _ => (h.block k (Array.getElem?_eq_some_iff.1 hk).1).trans hk⟩

/-- The law returns what stands in its result. -/
theorem over_end {w A : World} {D : Nat} {tmps : Array Value} (ht : tmps.getD 8 undef = .pointer (some ⟨w.heap.size + 1, 0, none⟩)) (bA : Below w.heap.size w A) (e2 : A.cell? ⟨w.heap.size + 1, 0, none⟩ = some (.bool false)) (hD : w.heap.size ≤ D)
    (hK : A.heap[D]? = some (.deferred (some []))) :
    bodyPostM Fence.wide 6 Try.prog Try.f11 (fun e w' => e = .returned (.bool true) ∧ Below w.heap.size w w') .ret { tmps := tmps, defers := [{ target := .collected D, args := #[] }] } (A.setCell ⟨w.heap.size + 1, 0, none⟩ (.bool true)) := by
  have hK' := (KeepsOthers.setCell A ⟨w.heap.size + 1, 0, none⟩ (.bool true)).same D _ hK rfl
  refine ⟨by simp, .inl ⟨_, _, rfl, run_takeDeferred hK', ?_⟩⟩
  have hc := cell_kept (World.cell?_setCell_same' A ⟨w.heap.size + 1, 0, none⟩ (.bool true) (by rw [e2]; rfl)) (grownBy_putObj' _ D (.deferred none)) (fun r e => by cases e; exact ⟨_, hK', rfl⟩)
  refine ⟨.bool true, ?_, rfl, (bA.setCell (p := ⟨w.heap.size + 1, 0, none⟩) (by show w.heap.size ≤ w.heap.size + 1; omega) _).trans (belowK_b (w := w) (Nat.le_refl _) _ D _ _ hD hK' rfl rfl)⟩
  simp only [Array.getD_eq_getD_getElem?] at ht
  simp [results, Try.f11, go_sem, hc, ht]

set_option maxRecDepth 100000 in
set_option maxHeartbeats 4000000 in
theorem order_any (a0 a1 a3 : Int) (a2 : Option Addr) (len2 cap2 : Nat) (z2 : List Int) (w : World) (w2 : IsRow .u8 w a2 len2 cap2 z2) (wa : (Lit.int .i64 a3).wf = true) :
    Calls Try.prog 11 #[.int .i64 a0, .int .i64 a1, .slice a2 len2 cap2, .int .i64 a3] w fun e w' => e = .returned (.bool true) ∧ Below w.heap.size w w' := by
  have HR := hid w2
  clear w2
  refine (callsIn_wide (n := 6)).1 ?_
  refine callsIn_of_wp_marks Try.func11 rfl trivial ?_ rfl
  simp only [Try.ntmps11, List.size_toArray, List.length_cons, List.length_nil, Nat.reduceAdd, Nat.reduceSub, Array.replicate_succ, Array.replicate_zero, List.push_toArray, List.append_toArray, List.nil_append, List.cons_append]
  gi_wp2
  refine ⟨trivial, ?_⟩
  refine (callsIn_wide.2 (known_any _)).mono ?_
  rintro e w1 ⟨rfl, hb1⟩
  have HB1 := hid (below_next (below_alloc (below_alloc (Below.refl w.heap.size w) _) _) hb1)
  have hs1 : w.heap.size + 2 ≤ w1.heap.size := by have := hb1.size; simp at this; exact this
  obtain ⟨hc1, hf1⟩ := bcell hb1
  have p1 := (hc1 w.heap.size 0 (by simp; omega)).trans (by simp [go_sem] : _ = some (.int .i64 a3))
  have p2 := (hf1 w.heap.size 0 (by simp; omega)).trans (by simp [go_sem] : _ = false)
  have p3 := (hc1 (w.heap.size + 1) 0 (by simp)).trans (by simp [go_sem] : _ = some (.bool false))
  have p4 := (hf1 (w.heap.size + 1) 0 (by simp)).trans (by simp [go_sem] : _ = false)
  clear hc1 hf1 hb1
  gi_wp2
  refine ⟨trivial, ?_⟩
  refine (callsIn_wide.2 (smalll_any _ _ _ _ _ z2 _ (HR.out.below (Below.mono (by exact HB1.out) (Nat.le_refl _))))).mono ?_
  rintro e v0 ⟨W, H, x0, c0, hW, hH, rfl, ho, hb2⟩
  have HB0 := hid (below_next HB1.out hb2)
  have hs2 : w.heap.size + 2 ≤ v0.heap.size := by have := hb2.size; omega
  obtain ⟨hc1, hf1⟩ := bcell hb2
  replace p1 := (hc1 w.heap.size 0 (by omega)).trans p1
  replace p2 := (hf1 w.heap.size 0 (by omega)).trans p2
  replace p3 := (hc1 (w.heap.size + 1) 0 (by omega)).trans p3
  replace p4 := (hf1 (w.heap.size + 1) 0 (by omega)).trans p4
  have hW' : 1 ≤ W ∧ W ≤ 1024 := by omega
  have hH' : 1 ≤ H ∧ H ≤ 1024 := by omega
  have hN64 : W * H ≤ 8 * 8 := Nat.mul_le_mul hW.2 hH.2
  obtain ⟨N, hN⟩ : ∃ N, N = W * H := ⟨_, rfl⟩
  rw [← hN] at ho hN64 ⊢
  have HN := hid hN
  have HO := hid (ho.mono (B' := w.heap.size + 2) hs1)
  have m0 := ho.lt.2
  have m1 := ho.lt.1
  have hcap := ho.cap
  have t0 : w.heap.size < v0.heap.size := by omega
  have t1 : w.heap.size + 1 < v0.heap.size := by omega
  clear hc1 hf1 hb2 ho HB1 HR hN
  gi_wp2
  refine ⟨trivial, ?_⟩
  refine (callsIn_wide.2 (cutl_in a3 0 H _ (by omega) (by omega) (by omega) (by omega))).mono ?_
  rintro e w3 ⟨s, hs0, hs9, rfl, rfl⟩
  obtain ⟨S, rfl⟩ : ∃ S : Nat, s = S := ⟨s.toNat, by omega⟩
  gi_wp2
  refine ⟨trivial, ?_⟩
  refine (callsIn_wide.2 (rows_make _ _ _ _)).mono ?_
  rintro e X ⟨rfl, hX⟩
  rw [show ((((v0.setCell ⟨w.heap.size, 0, none⟩ (.int .i64 S)).alloc (.cells #[.int .i64 W, .int .i64 H, .slice (some ⟨x0, 0, none⟩) N c0] 25)).alloc (.cells #[.int .i64 0] 3))).heap.size = v0.heap.size + 2 from by simp]
  have sX : X.heap.size = v0.heap.size + 3 := by rw [hX]; simp
  have hbX : Below v0.heap.size (v0.setCell ⟨w.heap.size, 0, none⟩ (.int .i64 S)) X := by
    rw [hX]; exact (((Below.refl _ _).alloc (by simp) _).alloc (by simp) _).alloc (by simp; omega) _
  have hX0 : Over w v0 S W H x0 N c0 (sv len2 z2) 0 X := by
    have r1 := (hbX.cell (p := ⟨w.heap.size, 0, none⟩) t0).trans (World.cell?_setCell_same' _ _ _ (by rw [p1]; rfl))
    have r3 := (hbX.cell (p := ⟨w.heap.size + 1, 0, none⟩) t1).trans ((World.cell?_of_block (Below.heap_setCell _ _ _ _ (by show w.heap.size + 1 ≠ w.heap.size; omega))).trans p3)
    have r4 := (hbX.frozen (p := ⟨w.heap.size + 1, 0, none⟩) t1).trans ((World.frozen?_of_block (Below.heap_setCell _ _ _ _ (by show w.heap.size + 1 ≠ w.heap.size; omega))).trans p4)
    refine ⟨r1, ⟨r3, r4⟩, ?_⟩
    rw [hX]
    refine ⟨⟨?_, ?_, ?_⟩, ⟨?_, ?_⟩, ⟨⟨?_, ?_, ?_⟩, ?_, ?_⟩, ?_⟩
    · simp [go_sem]
    · simp [go_sem]
    · simp [go_sem]
    · simp [go_sem]
    · simp [go_sem]
    · simp [go_sem]
    · simp [go_sem]
    · simp [go_sem]
    · exact ((((HO.out.far (p := ⟨w.heap.size, 0, none⟩) (by show x0 ≠ w.heap.size; omega) _).alloc _).alloc _).alloc _).px
    · simp; omega
    · exact below_alloc (below_alloc (below_alloc (HB0.out.setCell (p := ⟨w.heap.size, 0, none⟩) (Nat.le_refl _) _) _) _) _
  have HX0 := hid hX0
  clear hbX hX hX0 p1 p2 p3 p4 HB0 HO
  gi_wp2
  refine range_rows (gf := 50) (lb := #[.pointer (some ⟨v0.heap.size + 2, 0, none⟩)]) rfl (by omega) rfl trivial (enters_of Try.func50 (by kernel_rfl) rfl) (RowAt W (sv len2 z2)) H
    (fun k A => k ≤ S ∧ Over w v0 S W H x0 N c0 (sv len2 z2) k A) (fun c j A => c = .exit 0 ∧ j = S + 1 ∧ Over w v0 S W H x0 N c0 (sv len2 z2) S A)
    (rows_iter 5 (by omega) W H (v0.heap.size + 2) x0 N c0 (sv len2 z2) _ hW' hH' HN.out hcap.1 hcap.2 (fun k A h => h.2.2.2.2.2.1)) rfl
    (fun k A B h hb => ⟨h.1, h.2.below hb (by omega) hs2 m0⟩) (fun c k A B h hb => ⟨h.1, h.2.1, h.2.2.below hb (by omega) hs2 m0⟩) (fun k v A l o r h hl => h.put o hl)
    ⟨Nat.zero_le _, HX0.out⟩
    (fun v => { tmps := #[.int .i64 a0, .int .i64 a1, .slice a2 len2 cap2, .int .i64 a3, undef, undef, undef, .pointer (some ⟨w.heap.size, 0, none⟩), .pointer (some ⟨w.heap.size + 1, 0, none⟩), .pointer (some ⟨v0.heap.size, 0, none⟩), .pointer (some ⟨v0.heap.size + 1, 0, none⟩), v, .bool true, .bool false, .int .i64 a0, .int .i64 a1, .slice a2 len2 cap2, grid W H (.slice (some ⟨x0, 0, none⟩) N c0), .int .i64 a3, .pointer (some ⟨v0.heap.size, 1, none⟩), .int .i64 H, .int .i64 S, .agg #[.int .i64 W, .int .i64 H, .slice (some ⟨x0, 0, none⟩) N c0], .func (.func 50) #[] #[.pointer (some ⟨v0.heap.size + 2, 0, none⟩)], v, undef, undef, undef, undef, undef, undef, undef, undef, undef, undef, undef, undef, undef, undef, undef, undef, undef, undef, undef, undef, undef, undef, undef], defers := [] }) ?assign ?body ?done ?stop
  case assign =>
    intro l v A K hK
    gi_wp2
    exact hK
  case body =>
    clear HX0
    rintro l k v A ⟨hkS, hA⟩ ⟨g3, c3, rfl, hp3⟩ hkH
    have HA := hid hA
    have HP3 := hid hp3
    obtain ⟨e1, -, ⟨e4, e5, e6⟩, ⟨e7, e8⟩, -, -⟩ := hA
    clear hp3
    obtain ⟨hcn, hcm⟩ := hcap
    have hle : k * W + W ≤ N := by
      rw [HN.out, ← Nat.succ_mul, Nat.mul_comm W H]; exact Nat.mul_le_mul_right W hkH
    have a1 : ((k : Int) * (W : Int)).toNat = k * W := by rw [← Int.natCast_mul]; exact Int.toNat_natCast _
    have a2 : (((k : Int) + 1) * (W : Int)).toNat - ((k : Int) * (W : Int)).toNat = W := by
      have : ((k : Int) + 1) * (W : Int) = ((k * W + W : Nat) : Int) := by rw [Int.add_mul, Int.one_mul]; simp
      rw [this, a1, Int.toNat_natCast]; omega
    obtain ⟨m2, m3⟩ := mul_bds (show 0 ≤ (k : Int) by omega) (show (k : Int) ≤ 1024 by omega) (show 0 ≤ (W : Int) by omega) (show (W : Int) ≤ 1024 by omega)
    obtain ⟨m4, m5⟩ := mul_bds (show 0 ≤ (k : Int) + 1 by omega) (show (k : Int) + 1 ≤ 1024 by omega) (show 0 ≤ (W : Int) by omega) (show (W : Int) ≤ 1024 by omega)
    have m6 : ((k : Int) + 1) * (W : Int) = (k : Int) * (W : Int) + W := by rw [Int.add_mul, Int.one_mul]
    have m7 : ((k : Int) + 1) * (W : Int) ≤ N := by rw [m6, ← Int.natCast_mul]; omega
    have m8 : (k : Int) * (W : Int) ≤ ((k : Int) + 1) * (W : Int) := by omega
    have m9 : (k : Int) * (W : Int) < c0 := by omega
    have A1 := hid a1
    have A2 := hid a2
    have M6 := hid m6
    clear a1 a2 m6
    by_cases hne : k = S
    · subst hne
      gi_wp2
      exact ⟨KeepsOthers.refl _, rfl, rfl, HA.out⟩
    · have hneq : ((k : Int) == (S : Int)) = false := by simp; omega
      gi_wp2
      rw [show (k + 1) * W - k * W = W from by rw [Nat.succ_mul]; omega]
      refine ⟨trivial, ?_⟩
      have hsz : v0.heap.size + 3 ≤ A.heap.size := cell_old HA.out.2.2.2.2.1.1.1
      have hp4 : Px A x0 (k * W) W (fun i => sv len2 z2 (k * W + i)) := by
        have := HA.out.2.2.2.2.1.2.1.part (k * W) W hle
        rwa [Nat.zero_add] at this
      refine CallsIn.inRound l ((callsIn_wide.2 (bytes_yes g3 0 c3 x0 (k * W) _ W (fun i => sv len2 z2 (k * W + i)) _ HP3.out hp4 (by omega))).mono ?_)
      rintro e A2 ⟨rfl, hb2⟩
      have HB2 := hid hb2
      have HA2 := hid (HA.out.below hb2 hsz hs2 m0)
      clear hp4 hb2 e1 e4 e5 e6 e7 e8
      obtain ⟨e1, -, ⟨e4, e5, e6⟩, ⟨e7, e8⟩, -, -⟩ := HA2.out
      gi_wp2
      exact ⟨(others_below HB2.out).trans (KeepsOthers.setCell _ _ _), by omega, by exact HA2.out.next (k + 1) hs2 m0⟩
  case done =>
    rintro D A hD ⟨hkS, hA⟩ hK
    have HA := hid hA
    obtain ⟨e1, ⟨e2, e3⟩, ⟨e4, e5, e6⟩, ⟨e7, e8⟩, -, -⟩ := hA
    have hSH : S = H := by omega
    subst hSH
    gi_wp2
    have bA : Below w.heap.size w A := HA.out.2.2.2.2.2
    exact over_end rfl bA e2 (by omega) hK
  case stop =>
    rintro D c k A hD hk ⟨rfl, hkS, hA⟩ hK
    have HA := hid hA
    obtain ⟨e1, ⟨e2, e3⟩, ⟨e4, e5, e6⟩, ⟨e7, e8⟩, -, -⟩ := hA
    gi_wp2
    have bA : Below w.heap.size w A := HA.out.2.2.2.2.2
    exact over_end rfl bA e2 (by omega) hK
end Go.Proofs.Ytdjjijkdalpggaa
