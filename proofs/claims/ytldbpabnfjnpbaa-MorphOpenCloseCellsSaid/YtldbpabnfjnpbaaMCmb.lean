/- combineRows of package morph: a region combined with itself, shifted up and down. -/
import Derived.Test.YtldbpabnfjnpbaaMStp
import Derived.Test.YtldbpabnfjnpbaaUni
namespace Go.Proofs.Ytldbpabnfjnpbaa
open Go Go.RowKit Go.Shelf
attribute [local go_sem] Oper.semAt_some
set_option linter.unusedVariables false
set_option linter.unusedSimpArgs false

theorem hs_bd (w : Nat) : ∀ (n r : Nat), w - r ≤ n → ∀ s ∈ hs w r, 0 < s ∧ s ≤ w
  | 0, r, h, s, hs' => by rw [hs_ge (by omega)] at hs'; cases hs'
  | n + 1, r, h, s, hs' => by
    rcases Nat.lt_or_ge r w with k | k
    · rw [hs_lt k] at hs'
      rcases List.mem_cons.1 hs' with e | e
      · subst e; omega
      · exact hs_bd w n _ (by omega) s e
    · rw [hs_ge k] at hs'; cases hs'
theorem stL_bd {w : Nat} {k : Nat} {s : Int} (h : (stL w)[k]? = some s) : -(w : Int) ≤ s ∧ s ≤ w := by
  have hm := List.mem_of_getElem? h
  unfold stL at hm
  rcases List.mem_append.1 hm with e | e
  · have := hs_bd w w 0 (by omega) s e; omega
  · obtain ⟨t, ht, rfl⟩ := List.mem_map.1 e
    have := hs_bd w w 0 (by omega) t ht; omega

/-- What the first k shifts have made of base. -/
def SU (d : Nat) (base : List Rn) (k : Nat) (xs : List Rn) : Prop := ∃ lo hi, lo ≤ 0 ∧ 0 ≤ hi ∧ Ups base xs lo hi ∧ okSt d lo hi ((stL d).drop k)
def SI (d : Nat) (base : List Rn) (k : Nat) (xs : List Rn) : Prop := ∃ lo hi, lo ≤ 0 ∧ 0 ≤ hi ∧ Ins base xs lo hi ∧ okSt d lo hi ((stL d).drop k)
theorem okSt_next {d lo hi s : Int} {rest : List Int} (h : okSt d lo hi (s :: rest)) (h0 : lo ≤ 0) (h1 : 0 ≤ hi) :
    ((lo = 0 ∧ 0 < s ∧ s ≤ hi + 1) ∨ (s < 0 ∧ -s ≤ 1 - lo)) ∧ okSt d (if s < 0 then lo + s else lo) (if s < 0 then hi else hi + s) rest ∧ (if s < 0 then lo + s else lo) ≤ 0 ∧ 0 ≤ (if s < 0 then hi else hi + s) := by
  rcases h with ⟨e1, e2, e3, e4⟩ | ⟨e2, e3, e4⟩
  · subst e1
    rw [if_neg (by omega), if_neg (by omega)]
    exact ⟨.inl ⟨rfl, e2, e3⟩, e4, by omega, by omega⟩
  · rw [if_pos e2, if_pos e2]
    exact ⟨.inr ⟨e2, e3⟩, e4, by omega, h1⟩
theorem drop_some {l : List Int} {k : Nat} {s : Int} (h : l[k]? = some s) : l.drop k = s :: l.drop (k + 1) := by
  obtain ⟨hk, e⟩ := List.getElem?_eq_some_iff.1 h
  rw [List.drop_eq_getElem_cons hk, e]
theorem SU.start {d : Nat} {base : List Rn} (h : chk base = 0) : SU d base 0 base := ⟨0, 0, Int.le_refl _, Int.le_refl _, Ups.start h, okSt_all d⟩
theorem SU.next {d : Nat} {base xs res : List Rn} {k : Nat} {s : Int} (hb : chk base = 0) (h : SU d base k xs) (hs : (stL d)[k]? = some s) (hr : IsOp (fun a b => a || b) xs (shiftL 0 s xs) res) : SU d base (k + 1) res := by
  obtain ⟨lo, hi, h0, h1, hu, hk⟩ := h
  rw [drop_some hs] at hk
  obtain ⟨k1, k2, k3, k4⟩ := okSt_next hk h0 h1
  exact ⟨_, _, k3, k4, hu.step hb h0 h1 k1 hr, k2⟩
theorem SU.done {d : Nat} {base xs : List Rn} (h : SU d base (stL d).length xs) : Ups base xs (-d) d := by
  obtain ⟨lo, hi, h0, h1, hu, hk⟩ := h
  rw [List.drop_length] at hk
  obtain ⟨rfl, rfl⟩ := hk
  exact hu
theorem SI.start {d : Nat} {base : List Rn} (h : chk base = 0) : SI d base 0 base := ⟨0, 0, Int.le_refl _, Int.le_refl _, Ins.start h, okSt_all d⟩
theorem SI.next {d : Nat} {base xs res : List Rn} {k : Nat} {s : Int} (hb : chk base = 0) (h : SI d base k xs) (hs : (stL d)[k]? = some s) (hr : IsOp (fun a b => a && b) xs (shiftL 0 s xs) res) : SI d base (k + 1) res := by
  obtain ⟨lo, hi, h0, h1, hu, hk⟩ := h
  rw [drop_some hs] at hk
  obtain ⟨k1, k2, k3, k4⟩ := okSt_next hk h0 h1
  exact ⟨_, _, k3, k4, hu.step hb h0 h1 k1 hr, k2⟩
theorem SI.done {d : Nat} {base xs : List Rn} (h : SI d base (stL d).length xs) : Ins base xs (-d) d := by
  obtain ⟨lo, hi, h0, h1, hu, hk⟩ := h
  rw [List.drop_length] at hk
  obtain ⟨rfl, rfl⟩ := hk
  exact hu
/-- The boxes of combineRows. -/
structure Bx (K : Nat) (d : Int) (w : World) (A : World) (v : Value) : Prop where
  b : Below w.heap.size w A
  s : w.heap.size + 5 ≤ A.heap.size
  r : Var A w.heap.size #[v] 22
  c : Var A (w.heap.size + 1) #[.func (.func K) #[] #[]] 59
  x : Var A (w.heap.size + 2) #[.slice none 0 0] 22
  e : Var A (w.heap.size + 3) #[.int .i64 0] 24
  w : Var A (w.heap.size + 4) #[.int .i64 d] 3
theorem Bx.start (K : Nat) (d : Int) (w : World) (v : Value) : Bx K d w (((((w.alloc (.cells #[v] 22)).alloc (.cells #[.func (.func K) #[] #[]] 59)).alloc (.cells #[.slice none 0 0] 22)).alloc (.cells #[.int .i64 0] 24)).alloc (.cells #[.int .i64 d] 3)) v := by
  refine ⟨below_alloc (below_alloc (below_alloc (below_alloc (below_alloc (Below.refl _ w) _) _) _) _) _, by simp, ?_, ?_, ?_, ?_, ?_⟩
  · exact ((((Var.new _ _ _ _ rfl).alloc _).alloc _).alloc _).alloc _
  · exact (((Var.new _ _ _ _ (by simp)).alloc _).alloc _).alloc _
  · exact ((Var.new _ _ _ _ (by simp)).alloc _).alloc _
  · exact (Var.new _ _ _ _ (by simp)).alloc _
  · exact Var.new _ _ _ _ (by simp)
theorem Bx.next {K : Nat} {d : Int} {w A B : World} {v : Value} (h : Bx K d w A v) (hb : Below A.heap.size A B) : Bx K d w B v :=
  ⟨below_next h.b hb, Nat.le_trans h.s hb.size, h.r.next hb, h.c.next hb, h.x.next hb, h.e.next hb, h.w.next hb⟩
theorem Bx.put {K : Nat} {d : Int} {w A : World} {v : Value} (h : Bx K d w A v) {l : Nat} {o : Obj} (o' : Obj) (hl : w.heap.size + 5 ≤ l) (ho : A.heap[l]? = some o) (h1 : o.isCells = false) (h2 : o.isWalk = false) : Bx K d w (A.putObj l o') v := by
  have hb := h.b.trans (belowK_b (w := w) (Nat.le_refl _) A l o o' (by omega) ho h1 h2)
  have hs : (A.putObj l o').heap.size = A.heap.size := by simp [World.putObj]
  exact ⟨hb, by rw [hs]; exact h.s, h.r.keep (World.putObj_heap_other (by omega)), h.c.keep (World.putObj_heap_other (by omega)), h.x.keep (World.putObj_heap_other (by omega)), h.e.keep (World.putObj_heap_other (by omega)), h.w.keep (World.putObj_heap_other (by omega))⟩
theorem Bx.set {K : Nat} {d : Int} {w A : World} {v : Value} (h : Bx K d w A v) (u : Value) : Bx K d w (A.setCell ⟨w.heap.size, 0, none⟩ u) u :=
  ⟨h.b.setCell (p := ⟨w.heap.size, 0, none⟩) (Nat.le_refl _) _, by rw [World.size_setCell]; exact h.s, h.r.set u, h.c.far (by show w.heap.size + 1 ≠ w.heap.size; omega) _, h.x.far (by show w.heap.size + 2 ≠ w.heap.size; omega) _, h.e.far (by show w.heap.size + 3 ≠ w.heap.size; omega) _, h.w.far (by show w.heap.size + 4 ≠ w.heap.size; omega) _⟩
theorem Runs.put {A : World} {A' : Option Addr} {xs : List Rn} (h : Runs A A' xs) {l : Nat} {o : Obj} (o' : Obj) (ho : A.heap[l]? = some o) (h1 : o.isCells = false) : Runs (A.putObj l o') A' xs := fun hn => by
  obtain ⟨a, e, hl, hr⟩ := h hn
  refine ⟨a, e, by simpa [World.putObj] using hl, fun i s hi => ?_⟩
  obtain ⟨c0, c1, c2⟩ := hr i s hi
  have kept : ∀ {p : Addr} {v : Value}, A.cell? p = some v → (A.putObj l o').cell? p = some v := fun hc => cell_kept hc (grownBy_putObj' A l o') (fun r e => by cases e; exact ⟨_, ho, h1⟩)
  exact ⟨kept c0, kept c1, kept c2⟩
/-- The runs lie apart from the boxes. -/
def Apart (w : World) (A' : Option Addr) (xs : List Rn) : Prop := xs ≠ [] → ∀ a, A' = some a → a.block < w.heap.size ∨ w.heap.size + 5 ≤ a.block
theorem Runs.set {A : World} {A' : Option Addr} {xs : List Rn} (h : Runs A A' xs) {b : Nat} (hb : xs ≠ [] → ∀ a, A' = some a → a.block ≠ b) (u : Value) : Runs (A.setCell ⟨b, 0, none⟩ u) A' xs := fun hn => by
  obtain ⟨a, e, hl, hr⟩ := h hn
  refine ⟨a, e, by rw [World.size_setCell]; exact hl, fun i s hi => ?_⟩
  obtain ⟨c0, c1, c2⟩ := hr i s hi
  have kept : ∀ {p : Addr} {v : Value}, p.block = a.block → A.cell? p = some v → (A.setCell ⟨b, 0, none⟩ u).cell? p = some v := fun hp hc => (World.cell?_of_block (Below.heap_setCell _ _ _ _ (by rw [hp]; exact hb hn a e))).trans hc
  exact ⟨kept (by rw [add_block]) c0, kept (by first | rfl | (simp only [add_block]) | rw [add_block]) c1, kept (by first | rfl | (simp only [add_block]) | rw [add_block]) c2⟩
theorem others_of {A B : World} (h : Below A.heap.size A B) : KeepsOthers A B := ⟨h.size, fun k o hk _ => (h.block k (Array.getElem?_eq_some_iff.1 hk).1).trans hk⟩
/-- A region with a property, and no error. -/
def GivesP (P : List Rn → Prop) (w : World) (e : Ending) (w' : World) : Prop := ∃ A c res, e = .returned (.tuple #[.slice A res.length c, .int .i64 0]) ∧ Runs w' A res ∧ Below w.heap.size w w' ∧ P res
/-- combineRows returns what stands in its results. -/
theorem rows_end {w A : World} {x y : Value} {D : Nat} {tmps : Array Value} {R : Ending → World → Prop} (h6 : tmps.getD 6 undef = .pointer (some ⟨w.heap.size + 2, 0, none⟩)) (h7 : tmps.getD 7 undef = .pointer (some ⟨w.heap.size + 3, 0, none⟩))
    (e1 : A.cell? ⟨w.heap.size + 2, 0, none⟩ = some x) (e2 : A.cell? ⟨w.heap.size + 3, 0, none⟩ = some y) (hK : A.heap[D]? = some (.deferred (some []))) (hR : R (.returned (.tuple #[x, y])) (A.putObj D (.deferred none))) :
    bodyPostM Fence.wide 6 Try.prog Try.f62 R .ret { tmps := tmps, defers := [{ target := .collected D, args := #[] }] } A := by
  refine ⟨by simp, .inl ⟨_, _, rfl, run_takeDeferred hK, ?_⟩⟩
  have c1 := cell_kept e1 (grownBy_putObj' A D (.deferred none)) (fun r e => by cases e; exact ⟨_, hK, rfl⟩)
  have c2 := cell_kept e2 (grownBy_putObj' A D (.deferred none)) (fun r e => by cases e; exact ⟨_, hK, rfl⟩)
  refine ⟨.tuple #[x, y], ?_, hR⟩
  simp only [Array.getD_eq_getD_getElem?] at h6 h7
  simp [results, Try.f62, go_sem, c1, c2, h6, h7]

set_option maxRecDepth 100000 in
set_option maxHeartbeats 4000000 in
theorem rowsU_any (A : Option Addr) (ss : List Rn) (n c d : Nat) (w : World) (hn : n = ss.length) (hs : Runs w A ss) (hc : chk ss = 0) (hd : d ≤ 64) :
    Calls Try.prog 62 #[.slice A n c, .int .i64 d, .func (.func 46) #[] #[]] w (GivesP (fun res => Ups ss res (-d) d) w) := by
  have HS := hid hs
  have HC := hid hc
  subst hn
  clear hs hc
  refine (callsIn_wide (n := 6)).1 ?_
  refine callsIn_of_wp_marks Try.func62 rfl trivial ?_ rfl
  simp only [Try.ntmps62, List.size_toArray, List.length_cons, List.length_nil, Nat.reduceAdd, Nat.reduceSub, Array.replicate_succ, Array.replicate_zero, List.push_toArray, List.append_toArray, List.nil_append, List.cons_append]
  gi_wp2
  refine ⟨trivial, ?_⟩
  refine (callsIn_wide.2 (steps_make _ _)).mono ?_
  rintro e X ⟨rfl, hX⟩
  rw [show ((((w.alloc (.cells #[.slice A ss.length c] 22)).alloc (.cells #[.func (.func 46) #[] #[]] 59)).alloc (.cells #[.slice none 0 0] 22)).alloc (.cells #[.int .i64 0] 24)).heap.size = w.heap.size + 4 from by simp]
  have HX0 : Hid (Bx 46 d w X (.slice A ss.length c)) := hid (by rw [hX]; exact Bx.start _ _ _ _)
  have HAP : Hid (Apart w A ss) := hid (fun hn a e => by obtain ⟨a', e', hl, -⟩ := HS.out hn; rw [e] at e'; cases e'; exact .inl hl)
  have sX : X.heap.size = w.heap.size + 5 := by rw [hX]; simp
  have HR0 := hid (show Runs X A ss from HS.out.next HX0.out.b)
  clear hX
  gi_wp2
  refine range_rows (gf := 97) (lb := #[.pointer (some ⟨w.heap.size + 4, 0, none⟩)]) rfl (by omega) rfl trivial (enters_of Try.func97 (by kernel_rfl) rfl) (StAt d) (stL d).length
    (fun k A => ∃ A' c' xs, Bx 46 d w A (.slice A' xs.length c') ∧ (Runs A A' xs ∧ Apart w A' xs) ∧ SU d ss k xs) (fun c j A => False)
    (steps_iter 5 (by omega) d (w.heap.size + 4) _ hd (fun k A h => by obtain ⟨A', c', xs, h, -⟩ := h; exact h.w.cell 0)) rfl
    (fun k A B h hb => by obtain ⟨A', c', xs, h1, h2, h3⟩ := h; exact ⟨A', c', xs, h1.next hb, ⟨h2.1.next hb, h2.2⟩, h3⟩)
    (fun k A l o o' h hl ho e1 e2 => by obtain ⟨A', c', xs, h1, h2, h3⟩ := h; exact ⟨A', c', xs, h1.put o' (by omega) ho e1 e2, ⟨h2.1.put o' ho e1, h2.2⟩, h3⟩)
    (fun c k A l o o' h => h.elim) (fun k v A l o r h hl => h)
    ⟨A, c, ss, HX0.out, ⟨HR0.out, HAP.out⟩, SU.start HC.out⟩
    (fun v => { tmps := #[.slice A ss.length c, .int .i64 d, .func (.func 46) #[] #[], .pointer (some ⟨w.heap.size, 0, none⟩), undef, .pointer (some ⟨w.heap.size + 1, 0, none⟩), .pointer (some ⟨w.heap.size + 2, 0, none⟩), .pointer (some ⟨w.heap.size + 3, 0, none⟩), v, undef, undef, .int .i64 d, .func (.func 97) #[] #[.pointer (some ⟨w.heap.size + 4, 0, none⟩)], v, undef, undef, undef, undef, undef, undef, undef, undef, undef, undef, undef, undef, undef, undef, undef, undef, undef, undef, undef, undef], defers := [] }) ?assign ?body ?done ?stop
  case assign =>
    intro l v A K hK
    gi_wp2
    exact hK
  case body =>
    clear HX0 HR0
    rintro l k v A ⟨A', c', xs, hB, ⟨hR, -⟩, hS⟩ ⟨s, hks, rfl⟩ hkN
    have HB := hid hB
    have HR := hid hR
    have HSU := hid hS
    have HKS := hid hks
    have hbd := stL_bd hks
    have hv0 : Hid (chk xs = 0) := hid (by obtain ⟨_, _, _, _, h, _⟩ := hS; exact h.v)
    have c0 := hB.r.cell 0
    have f0 := hB.r.free 0
    have c1 := hB.c.cell 0
    simp only [List.getElem?_toArray, List.getElem?_cons_zero] at c0 c1
    clear hB hR hS hks
    gi_wp2
    refine ⟨trivial, ?_⟩
    refine CallsIn.inRound l ((callsIn_wide.2 (shift_good A' xs xs.length c' 0 s _ rfl HR.out hv0.out (by omega) (by omega))).mono ?_)
    rintro e A2 hg
    obtain ⟨A3, c3, rfl, hr3, hb3⟩ := hg.mono
    have HB3 := hid (HB.out.next hb3)
    have HR3 := hid hr3
    have HRX := hid (HR.out.next hb3)
    have HO3 := hid (others_of hb3)
    have hv3 : Hid (chk (shiftL 0 s xs) = 0) := hid (chk_shift hv0.out 0 s)
    replace c0 := HB3.out.r.cell 0
    replace c1 := HB3.out.c.cell 0
    simp only [List.getElem?_toArray, List.getElem?_cons_zero] at c0 c1
    clear f0 hg hr3 hb3
    gi_wp2
    refine ⟨trivial, ?_⟩
    refine CallsIn.inRound l ((callsIn_wide.2 (union_any A' A3 xs (shiftL 0 s xs) xs.length c' (shiftL 0 s xs).length c3 _ rfl rfl (by have := chk_len hv0.out; unfold maxLen; omega) (by have := chk_len hv3.out; unfold maxLen; omega) HRX.out HR3.out)).mono ?_)
    rintro e A4 ⟨v4, res, rfl, ho4, hb4, h4, -⟩
    rw [pairE_ok hv0.out hv3.out]
    have HI4 := hid (h4 (pairE_ok hv0.out hv3.out))
    have HB4 := hid (HB3.out.next hb4)
    have hfar : Hid (∀ k, v4.ownBlock = some k → k ≠ w.heap.size) := hid (fun k hk => by
      have h1 := (ho4.ge k hk).1
      have h2 := HB3.out.s
      omega)
    obtain ⟨A5, c5, rfl, -⟩ := ho4.is
    have HAP4 : Hid (Apart w A5 res) := hid (fun hn a e => by
      obtain ⟨g, c6, e6, hg, -⟩ := ho4.one hn
      cases e6
      cases e
      have h2 := HB3.out.s
      exact .inr (by show w.heap.size + 5 ≤ g; omega))
    have HO4 := hid (ho4.keep (w' := A4.setCell ⟨w.heap.size, 0, none⟩ (.slice A5 res.length c5)) fun k hk => Below.heap_setCell _ _ _ _ (hfar.out k hk))
    have HO5 := hid ((HO3.out.trans (others_of hb4)).trans (KeepsOthers.setCell A4 ⟨w.heap.size, 0, none⟩ (.slice A5 res.length c5)))
    replace c0 := HB4.out.r.cell 0
    have f0 := HB4.out.r.free 0
    simp only [List.getElem?_toArray, List.getElem?_cons_zero] at c0
    clear c1 ho4 hb4 h4
    gi_wp2
    obtain ⟨A6, c6, e6, hr6⟩ := HO4.out.is
    cases e6
    exact ⟨HO5.out, A5, c5, res, HB4.out.set _, ⟨hr6, HAP4.out⟩, HSU.out.next HC.out HKS.out HI4.out⟩
  case done =>
    rintro D A hD ⟨A', c', xs, hB, ⟨hR, hA⟩, hS⟩ hK
    have HB := hid hB
    have HR := hid hR
    have HSU := hid hS
    have c0 := hB.r.cell 0
    have c2 := hB.x.cell 0
    have f2 := hB.x.free 0
    have c3 := hB.e.cell 0
    have f3 := hB.e.free 0
    simp only [List.getElem?_toArray, List.getElem?_cons_zero] at c0 c2 c3
    have HA2 := hid (show Runs ((A.setCell ⟨w.heap.size + 2, 0, none⟩ (.slice A' xs.length c')).setCell ⟨w.heap.size + 3, 0, none⟩ (.int .i64 0)) A' xs from
      (hR.set (fun hn a e => by have := hA hn a e; omega) _).set (fun hn a e => by have := hA hn a e; omega) _)
    have HB2 := hid (show Below w.heap.size w ((A.setCell ⟨w.heap.size + 2, 0, none⟩ (.slice A' xs.length c')).setCell ⟨w.heap.size + 3, 0, none⟩ (.int .i64 0)) from
      (hB.b.setCell (p := ⟨w.heap.size + 2, 0, none⟩) (by show w.heap.size ≤ w.heap.size + 2; omega) _).setCell (p := ⟨w.heap.size + 3, 0, none⟩) (by show w.heap.size ≤ w.heap.size + 3; omega) _)
    have e1 := hid (((hB.x.set (.slice A' xs.length c') (i := 0)).far (p := ⟨w.heap.size + 3, 0, none⟩) (by show w.heap.size + 2 ≠ w.heap.size + 3; omega) (.int .i64 0)).cell 0)
    have e2 := hid (((hB.e.far (p := ⟨w.heap.size + 2, 0, none⟩) (by show w.heap.size + 3 ≠ w.heap.size + 2; omega) (.slice A' xs.length c')).set (.int .i64 0) (i := 0)).cell 0)
    have hK2 := hid (((KeepsOthers.setCell A ⟨w.heap.size + 2, 0, none⟩ (.slice A' xs.length c')).trans (KeepsOthers.setCell _ ⟨w.heap.size + 3, 0, none⟩ (.int .i64 0))).same D _ hK rfl)
    clear hB hR hS hA hK
    gi_wp2
    refine rows_end (w := w) rfl rfl e1.out e2.out hK2.out ⟨A', c', xs, rfl, ?_, ?_, HSU.out.done⟩
    · exact HA2.out.put _ hK2.out rfl
    · exact HB2.out.trans (belowK_b (w := w) (Nat.le_refl _) _ D _ _ (by omega) hK2.out rfl rfl)
  case stop =>
    rintro D c k A hD hk h hK
    exact h.elim

set_option maxRecDepth 100000 in
set_option maxHeartbeats 4000000 in
theorem rowsI_any (A : Option Addr) (ss : List Rn) (n c d : Nat) (w : World) (hn : n = ss.length) (hs : Runs w A ss) (hc : chk ss = 0) (hd : d ≤ 64) :
    Calls Try.prog 62 #[.slice A n c, .int .i64 d, .func (.func 65) #[] #[]] w (GivesP (fun res => Ins ss res (-d) d) w) := by
  have HS := hid hs
  have HC := hid hc
  subst hn
  clear hs hc
  refine (callsIn_wide (n := 6)).1 ?_
  refine callsIn_of_wp_marks Try.func62 rfl trivial ?_ rfl
  simp only [Try.ntmps62, List.size_toArray, List.length_cons, List.length_nil, Nat.reduceAdd, Nat.reduceSub, Array.replicate_succ, Array.replicate_zero, List.push_toArray, List.append_toArray, List.nil_append, List.cons_append]
  gi_wp2
  refine ⟨trivial, ?_⟩
  refine (callsIn_wide.2 (steps_make _ _)).mono ?_
  rintro e X ⟨rfl, hX⟩
  rw [show ((((w.alloc (.cells #[.slice A ss.length c] 22)).alloc (.cells #[.func (.func 65) #[] #[]] 59)).alloc (.cells #[.slice none 0 0] 22)).alloc (.cells #[.int .i64 0] 24)).heap.size = w.heap.size + 4 from by simp]
  have HX0 : Hid (Bx 65 d w X (.slice A ss.length c)) := hid (by rw [hX]; exact Bx.start _ _ _ _)
  have HAP : Hid (Apart w A ss) := hid (fun hn a e => by obtain ⟨a', e', hl, -⟩ := HS.out hn; rw [e] at e'; cases e'; exact .inl hl)
  have sX : X.heap.size = w.heap.size + 5 := by rw [hX]; simp
  have HR0 := hid (show Runs X A ss from HS.out.next HX0.out.b)
  clear hX
  gi_wp2
  refine range_rows (gf := 97) (lb := #[.pointer (some ⟨w.heap.size + 4, 0, none⟩)]) rfl (by omega) rfl trivial (enters_of Try.func97 (by kernel_rfl) rfl) (StAt d) (stL d).length
    (fun k A => ∃ A' c' xs, Bx 65 d w A (.slice A' xs.length c') ∧ (Runs A A' xs ∧ Apart w A' xs) ∧ SI d ss k xs) (fun c j A => False)
    (steps_iter 5 (by omega) d (w.heap.size + 4) _ hd (fun k A h => by obtain ⟨A', c', xs, h, -⟩ := h; exact h.w.cell 0)) rfl
    (fun k A B h hb => by obtain ⟨A', c', xs, h1, h2, h3⟩ := h; exact ⟨A', c', xs, h1.next hb, ⟨h2.1.next hb, h2.2⟩, h3⟩)
    (fun k A l o o' h hl ho e1 e2 => by obtain ⟨A', c', xs, h1, h2, h3⟩ := h; exact ⟨A', c', xs, h1.put o' (by omega) ho e1 e2, ⟨h2.1.put o' ho e1, h2.2⟩, h3⟩)
    (fun c k A l o o' h => h.elim) (fun k v A l o r h hl => h)
    ⟨A, c, ss, HX0.out, ⟨HR0.out, HAP.out⟩, SI.start HC.out⟩
    (fun v => { tmps := #[.slice A ss.length c, .int .i64 d, .func (.func 65) #[] #[], .pointer (some ⟨w.heap.size, 0, none⟩), undef, .pointer (some ⟨w.heap.size + 1, 0, none⟩), .pointer (some ⟨w.heap.size + 2, 0, none⟩), .pointer (some ⟨w.heap.size + 3, 0, none⟩), v, undef, undef, .int .i64 d, .func (.func 97) #[] #[.pointer (some ⟨w.heap.size + 4, 0, none⟩)], v, undef, undef, undef, undef, undef, undef, undef, undef, undef, undef, undef, undef, undef, undef, undef, undef, undef, undef, undef, undef], defers := [] }) ?assign ?body ?done ?stop
  case assign =>
    intro l v A K hK
    gi_wp2
    exact hK
  case body =>
    clear HX0 HR0
    rintro l k v A ⟨A', c', xs, hB, ⟨hR, -⟩, hS⟩ ⟨s, hks, rfl⟩ hkN
    have HB := hid hB
    have HR := hid hR
    have HSI := hid hS
    have HKS := hid hks
    have hbd := stL_bd hks
    have hv0 : Hid (chk xs = 0) := hid (by obtain ⟨_, _, _, _, h, _⟩ := hS; exact h.v)
    have c0 := hB.r.cell 0
    have f0 := hB.r.free 0
    have c1 := hB.c.cell 0
    simp only [List.getElem?_toArray, List.getElem?_cons_zero] at c0 c1
    clear hB hR hS hks
    gi_wp2
    refine ⟨trivial, ?_⟩
    refine CallsIn.inRound l ((callsIn_wide.2 (shift_good A' xs xs.length c' 0 s _ rfl HR.out hv0.out (by omega) (by omega))).mono ?_)
    rintro e A2 hg
    obtain ⟨A3, c3, rfl, hr3, hb3⟩ := hg.mono
    have HB3 := hid (HB.out.next hb3)
    have HR3 := hid hr3
    have HRX := hid (HR.out.next hb3)
    have HO3 := hid (others_of hb3)
    have hv3 : Hid (chk (shiftL 0 s xs) = 0) := hid (chk_shift hv0.out 0 s)
    replace c0 := HB3.out.r.cell 0
    replace c1 := HB3.out.c.cell 0
    simp only [List.getElem?_toArray, List.getElem?_cons_zero] at c0 c1
    clear f0 hg hr3 hb3
    gi_wp2
    refine ⟨trivial, ?_⟩
    refine CallsIn.inRound l ((callsIn_wide.2 (inter_any A' A3 xs (shiftL 0 s xs) xs.length c' (shiftL 0 s xs).length c3 _ rfl rfl (by have := chk_len hv0.out; unfold maxLen; omega) (by have := chk_len hv3.out; unfold maxLen; omega) HRX.out HR3.out)).mono ?_)
    rintro e A4 ⟨v4, res, rfl, ho4, hb4, h4, -⟩
    rw [pairE_ok hv0.out hv3.out]
    have HI4 := hid (h4 (pairE_ok hv0.out hv3.out))
    have HB4 := hid (HB3.out.next hb4)
    have hfar : Hid (∀ k, v4.ownBlock = some k → k ≠ w.heap.size) := hid (fun k hk => by
      have h1 := (ho4.ge k hk).1
      have h2 := HB3.out.s
      omega)
    obtain ⟨A5, c5, rfl, -⟩ := ho4.is
    have HAP4 : Hid (Apart w A5 res) := hid (fun hn a e => by
      obtain ⟨g, c6, e6, hg, -⟩ := ho4.one hn
      cases e6
      cases e
      have h2 := HB3.out.s
      exact .inr (by show w.heap.size + 5 ≤ g; omega))
    have HO4 := hid (ho4.keep (w' := A4.setCell ⟨w.heap.size, 0, none⟩ (.slice A5 res.length c5)) fun k hk => Below.heap_setCell _ _ _ _ (hfar.out k hk))
    have HO5 := hid ((HO3.out.trans (others_of hb4)).trans (KeepsOthers.setCell A4 ⟨w.heap.size, 0, none⟩ (.slice A5 res.length c5)))
    replace c0 := HB4.out.r.cell 0
    have f0 := HB4.out.r.free 0
    simp only [List.getElem?_toArray, List.getElem?_cons_zero] at c0
    clear c1 ho4 hb4 h4
    gi_wp2
    obtain ⟨A6, c6, e6, hr6⟩ := HO4.out.is
    cases e6
    exact ⟨HO5.out, A5, c5, res, HB4.out.set _, ⟨hr6, HAP4.out⟩, HSI.out.next HC.out HKS.out HI4.out⟩
  case done =>
    rintro D A hD ⟨A', c', xs, hB, ⟨hR, hA⟩, hS⟩ hK
    have HB := hid hB
    have HR := hid hR
    have HSI := hid hS
    have c0 := hB.r.cell 0
    have c2 := hB.x.cell 0
    have f2 := hB.x.free 0
    have c3 := hB.e.cell 0
    have f3 := hB.e.free 0
    simp only [List.getElem?_toArray, List.getElem?_cons_zero] at c0 c2 c3
    have HA2 := hid (show Runs ((A.setCell ⟨w.heap.size + 2, 0, none⟩ (.slice A' xs.length c')).setCell ⟨w.heap.size + 3, 0, none⟩ (.int .i64 0)) A' xs from
      (hR.set (fun hn a e => by have := hA hn a e; omega) _).set (fun hn a e => by have := hA hn a e; omega) _)
    have HB2 := hid (show Below w.heap.size w ((A.setCell ⟨w.heap.size + 2, 0, none⟩ (.slice A' xs.length c')).setCell ⟨w.heap.size + 3, 0, none⟩ (.int .i64 0)) from
      (hB.b.setCell (p := ⟨w.heap.size + 2, 0, none⟩) (by show w.heap.size ≤ w.heap.size + 2; omega) _).setCell (p := ⟨w.heap.size + 3, 0, none⟩) (by show w.heap.size ≤ w.heap.size + 3; omega) _)
    have e1 := hid (((hB.x.set (.slice A' xs.length c') (i := 0)).far (p := ⟨w.heap.size + 3, 0, none⟩) (by show w.heap.size + 2 ≠ w.heap.size + 3; omega) (.int .i64 0)).cell 0)
    have e2 := hid (((hB.e.far (p := ⟨w.heap.size + 2, 0, none⟩) (by show w.heap.size + 3 ≠ w.heap.size + 2; omega) (.slice A' xs.length c')).set (.int .i64 0) (i := 0)).cell 0)
    have hK2 := hid (((KeepsOthers.setCell A ⟨w.heap.size + 2, 0, none⟩ (.slice A' xs.length c')).trans (KeepsOthers.setCell _ ⟨w.heap.size + 3, 0, none⟩ (.int .i64 0))).same D _ hK rfl)
    clear hB hR hS hA hK
    gi_wp2
    refine rows_end (w := w) rfl rfl e1.out e2.out hK2.out ⟨A', c', xs, rfl, ?_, ?_, HSI.out.done⟩
    · exact HA2.out.put _ hK2.out rfl
    · exact HB2.out.trans (belowK_b (w := w) (Nat.le_refl _) _ D _ _ (by omega) hK2.out rfl rfl)
  case stop =>
    rintro D c k A hD hk h hK
    exact h.elim

end Go.Proofs.Ytldbpabnfjnpbaa
