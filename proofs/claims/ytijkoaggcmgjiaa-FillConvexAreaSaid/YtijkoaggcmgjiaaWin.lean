/- fill.Winding. -/
import Derived.Test.YtijkoaggcmgjiaaEdg
import Derived.Test.YtijkoaggcmgjiaaGro
namespace Go.Proofs.Ytijkoaggcmgjiaa
open Go Go.RowKit Go.Shelf
attribute [local go_sem] Oper.semAt_some
set_option linter.unusedVariables false
set_option linter.unusedSimpArgs false

theorem LnsE.put {X : World} {A : Option Addr} {es : List LE} (h : LnsE X A es) {l : Nat} {o : Obj} (o' : Obj) (ho : X.heap[l]? = some o) (h1 : o.isCells = false) : LnsE (X.putObj l o') A es := fun hn => by
  have kept : ∀ {p : Addr} {v : Value}, X.cell? p = some v → (X.putObj l o').cell? p = some v := fun hc => cell_kept hc (grownBy_putObj' X l o') (fun r e => by cases e; exact ⟨_, ho, h1⟩)
  have sz : (X.putObj l o').heap.size = X.heap.size := by simp [World.putObj]
  obtain ⟨a, e, hl, hr⟩ := h hn
  refine ⟨a, e, by rw [sz]; exact hl, fun i s hi => ?_⟩
  obtain ⟨c0, c1, hp, hle⟩ := hr i s hi
  refine ⟨kept c0, kept c1, fun hne => ?_, hle⟩
  obtain ⟨b, eb, hbl, hb⟩ := hp hne
  exact ⟨b, eb, by rw [sz]; exact hbl, fun j q hj => ⟨kept (hb j q hj).c0, kept (hb j q hj).c1⟩⟩
theorem LnsE.set {X : World} {A : Option Addr} {es : List LE} (h : LnsE X A es) {B : Nat} (hA : ∀ a, A = some a → a.block < B) (hP : ∀ e ∈ es, ∀ a, e.A = some a → a.block < B) {v : Nat} (hv : B ≤ v) (u : Value) : LnsE (X.setCell ⟨v, 0, none⟩ u) A es := fun hn => by
  have kept : ∀ {p : Addr} {z : Value}, p.block < B → X.cell? p = some z → (X.setCell ⟨v, 0, none⟩ u).cell? p = some z := fun hp hc => (World.cell?_of_block (Below.heap_setCell _ _ _ _ (by show _ ≠ v; omega))).trans hc
  obtain ⟨a, e, hl, hr⟩ := h hn
  have ha := hA a e
  refine ⟨a, e, by rw [World.size_setCell]; exact hl, fun i s hi => ?_⟩
  obtain ⟨c0, c1, hp, hle⟩ := hr i s hi
  refine ⟨kept (by rw [add_block]; exact ha) c0, kept (by show (a.add (i * 2)).block < B; rw [add_block]; exact ha) c1, fun hne => ?_, hle⟩
  obtain ⟨b, eb, hbl, hb⟩ := hp hne
  have hbb := hP s (List.mem_of_getElem? hi) b eb
  exact ⟨b, eb, by rw [World.size_setCell]; exact hbl, fun j q hj => ⟨kept (by rw [add_block]; exact hbb) (hb j q hj).c0, kept (by show (b.add (j * 2)).block < B; rw [add_block]; exact hbb) (hb j q hj).c1⟩⟩
/-- Lines lie below a block (whose address matters at all). -/
def Lows (B : Nat) (A : Option Addr) (es : List LE) : Prop := (es ≠ [] → ∀ a, A = some a → a.block < B) ∧ ∀ e ∈ es, e.ps ≠ [] → ∀ a, e.A = some a → a.block < B
theorem LnsE.lows {X : World} {A : Option Addr} {es : List LE} (h : LnsE X A es) : Lows X.heap.size A es := by
  refine ⟨fun hn a ha => ?_, fun e he hp b hb => ?_⟩
  · obtain ⟨a', e, hl, -⟩ := h hn
    rw [ha] at e; cases e; exact hl
  · obtain ⟨i, hi, hie⟩ := List.mem_iff_getElem.1 he
    obtain ⟨a', e', hl, hr⟩ := h (by intro e; subst e; cases he)
    obtain ⟨b', eb, hbl, -⟩ := (hr i e (by rw [List.getElem?_eq_getElem hi, hie])).pts hp
    rw [hb] at eb; cases eb; exact hbl
theorem LnsE.set' {X : World} {A : Option Addr} {es : List LE} (h : LnsE X A es) {B : Nat} (hA : Lows B A es) {v j : Nat} (hv : B ≤ v) (u : Value) : LnsE (X.setCell ⟨v, j, none⟩ u) A es := fun hn => by
  have kept : ∀ {p : Addr} {z : Value}, p.block < B → X.cell? p = some z → (X.setCell ⟨v, j, none⟩ u).cell? p = some z := fun hp hc => (World.cell?_of_block (Below.heap_setCell _ _ _ _ (by show _ ≠ v; omega))).trans hc
  obtain ⟨a, e, hl, hr⟩ := h hn
  have ha := hA.1 hn a e
  refine ⟨a, e, by rw [World.size_setCell]; exact hl, fun i s hi => ?_⟩
  obtain ⟨c0, c1, hp, hle⟩ := hr i s hi
  refine ⟨kept (by rw [add_block]; exact ha) c0, kept (by show (a.add (i * 2)).block < B; rw [add_block]; exact ha) c1, fun hne => ?_, hle⟩
  obtain ⟨b, eb, hbl, hb⟩ := hp hne
  have hbb := hA.2 s (List.mem_of_getElem? hi) hne b eb
  exact ⟨b, eb, by rw [World.size_setCell]; exact hbl, fun j q hj => ⟨kept (by rw [add_block]; exact hbb) (hb j q hj).c0, kept (by show (b.add (j * 2)).block < B; rw [add_block]; exact hbb) (hb j q hj).c1⟩⟩

theorem others_of {A B : World} (h : Below A.heap.size A B) : KeepsOthers A B := ⟨h.size, fun k o hk _ => (h.block k (Array.getElem?_eq_some_iff.1 hk).1).trans hk⟩
/-- What a loop over edges has in memory: its own variable in block v, the lines in the block behind. -/
structure Eb (w : World) (v : Nat) (t : TypeId) (val : Value) (A : Option Addr) (n c : Nat) (es : List LE) (X : World) : Prop where
  b : Below w.heap.size w X
  z : v + 2 ≤ X.heap.size
  a : Var X v #[val] t
  g : Var X (v + 1) #[.slice A n c] 22
  l : LnsE X A es
  low : Lows v A es
  w : w.heap.size ≤ v
section
variable {w X Y : World} {v : Nat} {t : TypeId} {val : Value} {A : Option Addr} {n c : Nat} {es : List LE}
theorem Eb.next (h : Eb w v t val A n c es X) (hb : Below X.heap.size X Y) : Eb w v t val A n c es Y :=
  ⟨below_next h.b hb, Nat.le_trans h.z hb.size, h.a.next hb, h.g.next hb, h.l.next hb, h.low, h.w⟩
theorem Eb.put (h : Eb w v t val A n c es X) {l : Nat} {o : Obj} (o' : Obj) (hl : v + 2 ≤ l) (ho : X.heap[l]? = some o) (h1 : o.isCells = false) (h2 : o.isWalk = false) : Eb w v t val A n c es (X.putObj l o') :=
  ⟨h.b.trans (belowK_b (w := w) (Nat.le_refl _) X l o o' (by have := h.w; omega) ho h1 h2), by simpa [World.putObj] using h.z, h.a.keep (World.putObj_heap_other (by omega)), h.g.keep (World.putObj_heap_other (by omega)), h.l.put o' ho h1, h.low, h.w⟩
theorem Eb.set (h : Eb w v t val A n c es X) (u : Value) : Eb w v t u A n c es (X.setCell ⟨v, 0, none⟩ u) :=
  ⟨h.b.setCell (p := ⟨v, 0, none⟩) h.w _, by rw [World.size_setCell]; exact h.z, h.a.set u, h.g.far (by show v + 1 ≠ v; omega) _, h.l.set' h.low (Nat.le_refl _) _, h.low, h.w⟩
theorem Eb.start (hb : Below w.heap.size w X) (hl : LnsE X A es) : Eb w X.heap.size t val A n c es ((X.alloc (.cells #[val] t)).alloc (.cells #[.slice A n c] 22)) :=
  ⟨below_alloc (below_alloc hb _) _, by simp, (Var.new X #[val] t _ rfl).alloc _, Var.new _ _ _ _ (by simp), (hl.next ((Below.refl _ X).alloc (Nat.le_refl _) _)).next ((Below.refl _ _).alloc (Nat.le_refl _) _), hl.lows, hb.size⟩
end

/-- The winding number as both programs add it up. -/
def stepW (x y : Int) (s : Int) (e : Ed) : Int := if (slp e.1 e.2).hit y && decide ((slp e.1 e.2).cell y ≤ x) then wrap64 (s + (slp e.1 e.2).d) else s
def windF (es : List Ed) (x y : Int) : Int := es.foldl (stepW x y) 0
theorem windF_take {es : List Ed} {k : Nat} {e : Ed} (x y : Int) (h : es[k]? = some e) : windF (es.take (k + 1)) x y = stepW x y (windF (es.take k) x y) e := by
  unfold windF
  rw [List.take_add_one, h, List.foldl_append]
  rfl

theorem fperm_t (n : Int) (w : World) (h : -8192 ≤ n ∧ n ≤ 8191) : Calls Try.prog 53 #[.int .i64 n] w fun e w' => e = .returned (.bool true) ∧ w = w' := inB_yes h ▸ fperm_any n w
theorem fperm_f (n : Int) (w : World) (h : ¬ (-8192 ≤ n ∧ n ≤ 8191)) : Calls Try.prog 53 #[.int .i64 n] w fun e w' => e = .returned (.bool false) ∧ w = w' := inB_no h ▸ fperm_any n w

theorem wind_bad (A : Option Addr) (ls : List Ln) (n c : Nat) (x y : Int) (w : World) (hn : n = ls.length) (hl : n ≤ maxLen) (hs : Lns w A ls) (h : lchk ls ≠ 0) :
    Calls Try.prog 19 #[.slice A n c, .int .i64 x, .int .i64 y] w fun e w' => e = .returned (.tuple #[.int .i64 0, .int .i64 (lchk ls)]) ∧ Below w.heap.size w w' := by
  have H := hid (fcheck_any A ls n c · hn hl)
  have HS := hid hs
  have h' : (lchk ls != 0) = true := by simpa using h
  clear hn hl hs h
  go_enter Try.func19, Try.ntmps19
  go_wp2_with fail
  have HB0 := hid (below_alloc (below_alloc (Below.refl w.heap.size w) (.cells #[.int .i64 x] 3)) (.cells #[.int .i64 y] 3))
  (with_reducible refine (H.out _ (HS.out.next HB0.out)).mono ?_); rintro e w1 ⟨rfl, hb⟩
  have HB1 := hid (below_next HB0.out hb)
  clear hb
  go_wp2_with fail
  go_ret2
  exact ⟨rfl, HB1.out⟩
theorem wind_out (A : Option Addr) (ls : List Ln) (n c : Nat) (x y : Int) (w : World) (hn : n = ls.length) (hl : n ≤ maxLen) (hs : Lns w A ls) (h : lchk ls = 0) (hp : ¬ ((-8192 ≤ x ∧ x ≤ 8191) ∧ -8192 ≤ y ∧ y ≤ 8191)) :
    Calls Try.prog 19 #[.slice A n c, .int .i64 x, .int .i64 y] w fun e w' => e = .returned (.tuple #[.int .i64 0, .int .i64 3]) ∧ Below w.heap.size w w' := by
  have H := hid (fcheck_any A ls n c · hn hl)
  rw [h] at H
  have HS := hid hs
  clear hn hl hs h
  go_enter Try.func19, Try.ntmps19
  go_wp2_with fail
  have HB0 := hid (below_alloc (below_alloc (Below.refl w.heap.size w) (.cells #[.int .i64 x] 3)) (.cells #[.int .i64 y] 3))
  (with_reducible refine (H.out _ (HS.out.next HB0.out)).mono ?_); rintro e w1 ⟨rfl, hb⟩
  have HB1 := hid (below_next HB0.out hb)
  obtain ⟨c0, -⟩ := (((Var.new w #[.int .i64 x] 3 _ rfl).alloc (.cells #[.int .i64 y] 3)).next hb).read1
  obtain ⟨c1, -⟩ := ((Var.new (w.alloc (.cells #[.int .i64 x] 3)) #[.int .i64 y] 3 (w.heap.size + 1) (by simp)).next hb).read1
  clear hb
  by_cases hx : -8192 ≤ x ∧ x ≤ 8191
  · have hy : ¬ (-8192 ≤ y ∧ y ≤ 8191) := fun k => hp ⟨hx, k⟩
    clear hp
    go_wp2_with fail
    (with_reducible refine (fperm_t _ _ hx).mono ?_); rintro e w' ⟨rfl, rfl⟩
    go_wp2_with fail
    (with_reducible refine (fperm_f _ _ hy).mono ?_); rintro e w' ⟨rfl, rfl⟩
    go_wp2_with fail
    go_ret2
    exact ⟨rfl, HB1.out⟩
  · clear hp
    go_wp2_with fail
    (with_reducible refine (fperm_f _ _ hx).mono ?_); rintro e w' ⟨rfl, rfl⟩
    go_wp2_with fail
    go_ret2
    exact ⟨rfl, HB1.out⟩

set_option maxRecDepth 100000 in
set_option maxHeartbeats 4000000 in
theorem wind_okE (A : Option Addr) (es : List LE) (n c : Nat) (x y : Int) (w : World) (hn : n = es.length) (hl : n ≤ maxLen) (hs : LnsE w A es) (h : lchk (es.map LE.ln) = 0) (hx : -8192 ≤ x ∧ x ≤ 8191) (hy : -8192 ≤ y ∧ y ≤ 8191) :
    Calls Try.prog 19 #[.slice A n c, .int .i64 x, .int .i64 y] w fun e w' => e = .returned (.tuple #[.int .i64 (windF (edgesL (es.map LE.ln)) x y), .int .i64 0]) ∧ Below w.heap.size w w' := by
  have H := hid (fcheck_any A (es.map LE.ln) n c · (by simpa using hn) hl)
  rw [h] at H
  have HOK := hid (lok_all (lok_of h))
  have HS := hid hs
  have HN := hid hn
  clear hn hs h
  refine (callsIn_wide (n := 6)).1 ?_
  refine callsIn_of_wp_marks Try.func19 rfl trivial ?_ rfl
  simp only [Try.ntmps19, List.size_toArray, List.length_cons, List.length_nil, Nat.reduceAdd, Nat.reduceSub, Array.replicate_succ, Array.replicate_zero, List.push_toArray, List.append_toArray, List.nil_append, List.cons_append]
  gi_wp2
  have HB0 := hid (below_alloc (below_alloc (Below.refl w.heap.size w) (.cells #[.int .i64 x] 3)) (.cells #[.int .i64 y] 3))
  refine ⟨trivial, ?_⟩
  refine (callsIn_wide.2 (H.out _ (HS.out.lns.next HB0.out))).mono ?_
  rintro e w1 ⟨rfl, hb⟩
  have HB1 := hid (below_next HB0.out hb)
  have HX := hid (((Var.new w #[.int .i64 x] 3 _ rfl).alloc (.cells #[.int .i64 y] 3)).next hb)
  have HY := hid ((Var.new (w.alloc (.cells #[.int .i64 x] 3)) #[.int .i64 y] 3 (w.heap.size + 1) (by simp)).next hb)
  obtain ⟨c0, -⟩ := HX.out.read1
  obtain ⟨c1, -⟩ := HY.out.read1
  clear hb
  gi_wp2
  refine ⟨trivial, ?_⟩
  refine (callsIn_wide.2 (fperm_t _ _ hx)).mono ?_
  rintro e w2 ⟨rfl, rfl⟩
  gi_wp2
  refine ⟨trivial, ?_⟩
  refine (callsIn_wide.2 (fperm_t _ _ hy)).mono ?_
  rintro e w2 ⟨rfl, rfl⟩
  gi_wp2
  refine ⟨trivial, ?_⟩
  refine (callsIn_wide.2 (edges_make _ _ _ _)).mono ?_
  rintro e X ⟨rfl, hX⟩
  rw [show (w1.alloc (.cells #[.int .i64 0] 3)).heap.size = w1.heap.size + 1 by simp]
  have HE0 := hid (show Eb w w1.heap.size 3 (.int .i64 0) A n c es X by rw [hX]; exact Eb.start HB1.out (HS.out.next HB1.out))
  have hb1 : Below w1.heap.size w1 X := by rw [hX]; exact below_alloc (below_alloc (Below.refl _ _) _) _
  have HXX := hid (HX.out.next hb1)
  have HXY := hid (HY.out.next hb1)
  have sX : X.heap.size = w1.heap.size + 2 := by rw [hX]; simp
  have hw1 : w.heap.size + 2 ≤ w1.heap.size := by have := HY.out.lt; omega
  clear hX c0 c1 HX HY hb1
  obtain ⟨ls, hls⟩ : ∃ ls, ls = es.map LE.ln := ⟨_, rfl⟩
  have HLS := hid hls
  rw [← hls] at HOK
  gi_wp2
  clear hls
  refine range_all (gf := 96) (lb := #[.pointer (some ⟨w1.heap.size + 1, 0, none⟩)]) rfl (by omega) rfl trivial (enters_of Try.func96 (by kernel_rfl) rfl) (EdAt ls) (edgesL ls).length
    (fun q M X => M = (fun z => z = w1.heap.size) ∧ Eb w w1.heap.size 3 (.int .i64 (windF ((edgesL ls).take q) x y)) A n c es X ∧ Var X w.heap.size #[.int .i64 x] 3 ∧ Var X (w.heap.size + 1) #[.int .i64 y] 3)
    (fun cd j X => False)
    (by rw [HLS.out]; exact edges_iter 5 (by omega) (w1.heap.size + 1) A es n c _ HN.out hl (fun q M X h => ⟨h.2.1.g.cell 0, h.2.1.l⟩)) (fun q v X h => by obtain ⟨p, -, rfl⟩ := h; rfl)
    (fun q M X Y h hb => ⟨h.1, h.2.1.next hb, h.2.2.1.next hb, h.2.2.2.next hb⟩)
    (fun q M X l o o' h hl ho e1 e2 => ⟨h.1, h.2.1.put o' (by omega) ho e1 e2, h.2.2.1.keep (World.putObj_heap_other (by omega)), h.2.2.2.keep (World.putObj_heap_other (by omega))⟩)
    (fun cd q X l o o' h hl ho e1 e2 => h)
    (fun z => z = w1.heap.size) (fun q h => by rw [sX, h]; omega) ⟨rfl, HE0.out, HXX.out, HXY.out⟩
    (fun q M v a' X => M = (fun z => z = w1.heap.size) ∧ Eb w w1.heap.size 3 (.int .i64 (windF ((edgesL ls).take q) x y)) A n c es X ∧ Var X w.heap.size #[.int .i64 x] 3 ∧ Var X (w.heap.size + 1) #[.int .i64 y] 3 ∧
      ∃ B p, (edgesL ls)[q]? = some p ∧ Var X B (pcel p.1) 40 ∧ Var X (B + 1) (pcel p.2) 40 ∧ a' = { tmps := #[.slice A n c, .int .i64 x, .int .i64 y, undef, .pointer (some ⟨w.heap.size, 0, none⟩), .pointer (some ⟨w.heap.size + 1, 0, none⟩), .int .i64 0, .int .i64 0, .int .i64 0, .pointer (some ⟨w1.heap.size, 0, none⟩), .pointer (some ⟨B, 0, none⟩), .pointer (some ⟨B + 1, 0, none⟩), undef, .slice A n c, .int .i64 0, .int .i64 0, .bool false, undef, .int .i64 x, .bool true, .bool false, .bool false, .int .i64 y, .bool true, .bool false, .bool false, .slice A n c, .func (.func 96) #[] #[.pointer (some ⟨w1.heap.size + 1, 0, none⟩)], ptv p.1, ptv p.2, undef, undef, undef, undef, undef, undef, undef, undef, undef, undef, undef, undef, undef, undef, undef, undef, undef, undef], defers := [] })
    (fun q M v a' X l o o' h hl ho e1 e2 => by
      obtain ⟨h0, h1, h2, h3, B, p, h4, h5, h6, h7⟩ := h
      have no : ∀ {b cs t}, Var X b cs t → b ≠ l := fun hv e => by subst e; unfold Var at hv; rw [ho] at hv; cases hv; cases e1
      exact ⟨h0, h1.put o' (by omega) ho e1 e2, h2.keep (World.putObj_heap_other (by omega)), h3.keep (World.putObj_heap_other (by omega)), B, p, h4, h5.keep (World.putObj_heap_other (no h5)), h6.keep (World.putObj_heap_other (no h6)), h7⟩)
    ?assign ?body ?done ?stop
  case assign =>
    clear HE0 HXX HXY
    rintro l q M v X K ⟨h0, h1, h2, h3⟩ hM ⟨p, hp, rfl⟩ hk hK
    gi_wp2
    have hb : Below X.heap.size X ((X.alloc (.cells (pcel p.1) 40)).alloc (.cells (pcel p.2) 40)) := below_alloc (below_alloc (Below.refl _ _) _) _
    exact hK _ _ (others_of hb) (Kept.below hb) ⟨h0, h1.next hb, h2.next hb, h3.next hb, X.heap.size, p, hp, (Var.new _ _ _ _ rfl).alloc _, Var.new _ _ _ _ (by simp), rfl⟩
  case body =>
    clear HE0 HXX HXY
    rintro l q M v a' X ⟨rfl, h1, h2, h3, B, p, h4, h5, h6, rfl⟩ hk
    have HIN := hid (show SlIn (slp p.1 p.2) from slp_in (edges_mem HOK.out p (List.mem_of_getElem? h4)).1 (edges_mem HOK.out p (List.mem_of_getElem? h4)).2)
    have HW := hid (windF_take x y h4)
    obtain ⟨p0, p1, -⟩ := h5.read2
    obtain ⟨q0, q1, -⟩ := h6.read2
    have H1 := hid h1
    have H2 := hid h2
    have H3 := hid h3
    clear h1 h2 h3 h4 h5 h6 hk
    gi_wp2
    refine ⟨trivial, ?_⟩
    refine CallsIn.inRound l ((callsIn_wide.2 (slope_any p.1 p.2 X)).mono ?_)
    rintro e X2 ⟨rfl, hb2⟩
    obtain ⟨s, hs⟩ : ∃ s, s = slp p.1 p.2 := ⟨_, rfl⟩
    rw [← hs] at HIN
    rw [← hs]
    have HSS := hid hs
    clear hs p0 p1 q0 q1
    have hb3 := below_alloc hb2 (.cells (slc s) 77)
    have H13 := hid (H1.out.next hb3)
    have HX3 := hid (H2.out.next hb3)
    have HY3 := hid (H3.out.next hb3)
    have HS3 := hid (Var.new X2 (slc s) 77 _ rfl)
    have HB3 := hid hb3
    clear hb2 hb3
    gi_wp2
    obtain ⟨X3, hX3⟩ : ∃ X3, X3 = X2.alloc (.cells (slc s) 77) := ⟨_, rfl⟩
    rw [← hX3] at H13 HX3 HY3 HS3 HB3
    rw [← hX3]
    clear hX3
    refine grow_round (by kernel_rfl) (by kernel_rfl) (by kernel_rfl) ?_
    by_cases hit : s.hit y = true
    · by_cases hle : s.cell y ≤ x
      · replace hle : decide (s.cell y ≤ x) = true := by simpa using hle
        have HD := hid (show windF ((edgesL ls).take (q + 1)) x y = wrap64 (windF ((edgesL ls).take q) x y + s.d) by rw [HW.out]; unfold stepW; rw [← HSS.out, hit, hle]; rfl)
        refine gq_val (v := slv s) (fun _ => trivial) rfl (fun w' hw' => run_loadSlp rfl (HS3.out.next hw')) ?_
        simp only [Act.put, List.setIfInBounds_toArray, List.set_cons_succ, List.set_cons_zero]
        refine gq_val (v := .int .i64 y) (fun _ => trivial) rfl (fun w' hw' => run_loadInt rfl (((HY3.out.next hw').cell 0))) ?_
        simp only [Act.put, List.setIfInBounds_toArray, List.set_cons_succ, List.set_cons_zero]
        refine gq_call (v := .bool true) (f := 56) (args := #[slv s, .int .i64 y]) (fun _ => trivial) rfl rfl (fun _ => run_call2 rfl enters_crosses) (fun w' hw' => CallsIn.inRound l ((callsIn_wide.2 (crosses_t s y w' hit)).mono fun e w'' he => ⟨he.1, below_next hw' he.2⟩)) ?_
        simp only [Act.put, List.setIfInBounds_toArray, List.set_cons_succ, List.set_cons_zero]
        refine gq_val (v := .bool true) (fun _ => trivial) rfl (fun w' hw' => rfl) ?_
        simp only [Act.put, List.setIfInBounds_toArray, List.set_cons_succ, List.set_cons_zero]
        refine gq_val (v := slv s) (fun _ => trivial) rfl (fun w' hw' => run_loadSlp rfl (HS3.out.next hw')) ?_
        simp only [Act.put, List.setIfInBounds_toArray, List.set_cons_succ, List.set_cons_zero]
        refine gq_val (v := .int .i64 y) (fun _ => trivial) rfl (fun w' hw' => run_loadInt rfl (((HY3.out.next hw').cell 0))) ?_
        simp only [Act.put, List.setIfInBounds_toArray, List.set_cons_succ, List.set_cons_zero]
        refine gq_call (v := .int .i64 (s.cell y)) (f := 57) (args := #[slv s, .int .i64 y]) (fun _ => trivial) rfl rfl (fun _ => run_call2 rfl enters_cellAt) (fun w' hw' => CallsIn.inRound l ((callsIn_wide.2 (cellAt_any s y w' HIN.out hit)).mono fun e w'' he => ⟨he.1, below_next hw' he.2⟩)) ?_
        simp only [Act.put, List.setIfInBounds_toArray, List.set_cons_succ, List.set_cons_zero]
        refine gq_val (v := .int .i64 x) (fun _ => trivial) rfl (fun w' hw' => run_loadInt rfl (((HX3.out.next hw').cell 0))) ?_
        simp only [Act.put, List.setIfInBounds_toArray, List.set_cons_succ, List.set_cons_zero]
        refine gq_val (v := .bool true) (fun _ => trivial) rfl (fun w' hw' => (run_leq (i := s.cell y) (j := x) rfl rfl).trans (by rw [show decide (s.cell y ≤ x) = true from hle])) ?_
        simp only [Act.put, List.setIfInBounds_toArray, List.set_cons_succ, List.set_cons_zero]
        refine gq_val (v := .bool true) (fun _ => trivial) rfl (fun w' hw' => run_pick (b := true) rfl) ?_
        simp only [Act.put, List.setIfInBounds_toArray, List.set_cons_succ, List.set_cons_zero]
        refine wpQuietIn_nil ?_
        rintro X4 hb4
        have H14 := hid (H13.out.next hb4)
        have HS4 := hid (HS3.out.next hb4)
        have HB4 := hid (below_next HB3.out hb4)
        have HX4 := hid (HX3.out.next hb4)
        have HY4 := hid (HY3.out.next hb4)
        generalize windF ((edgesL ls).take q) x y = W at H14 HD
        obtain ⟨u0, u1⟩ := H14.out.a.read1
        obtain ⟨-, -, -, -, u4, -⟩ := HS4.out.read5
        clear hle hit hb4
        gi_wp2
        exact ⟨(others_of HB4.out).trans (KeepsOthers.setCell _ ⟨w1.heap.size, 0, none⟩ (.int .i64 (wrap64 (W + s.d)))), _, ⟨rfl, by rw [HD.out]; exact H14.out.set _, HX4.out.far (by show w.heap.size ≠ w1.heap.size; omega) _, HY4.out.far (by show w.heap.size + 1 ≠ w1.heap.size; omega) _⟩,
          fun q h => by rw [h, World.size_setCell]; exact H14.out.a.lt, fun q h => .inl h, (Kept.below HB4.out).trans (Kept.set (M := fun z => z = w1.heap.size) (p := ⟨w1.heap.size, 0, none⟩) rfl _)⟩
      · replace hle : decide (s.cell y ≤ x) = false := by simpa using hle
        have HD := hid (show windF ((edgesL ls).take (q + 1)) x y = windF ((edgesL ls).take q) x y by rw [HW.out]; unfold stepW; rw [← HSS.out, hit, hle]; rfl)
        refine gq_val (v := slv s) (fun _ => trivial) rfl (fun w' hw' => run_loadSlp rfl (HS3.out.next hw')) ?_
        simp only [Act.put, List.setIfInBounds_toArray, List.set_cons_succ, List.set_cons_zero]
        refine gq_val (v := .int .i64 y) (fun _ => trivial) rfl (fun w' hw' => run_loadInt rfl (((HY3.out.next hw').cell 0))) ?_
        simp only [Act.put, List.setIfInBounds_toArray, List.set_cons_succ, List.set_cons_zero]
        refine gq_call (v := .bool true) (f := 56) (args := #[slv s, .int .i64 y]) (fun _ => trivial) rfl rfl (fun _ => run_call2 rfl enters_crosses) (fun w' hw' => CallsIn.inRound l ((callsIn_wide.2 (crosses_t s y w' hit)).mono fun e w'' he => ⟨he.1, below_next hw' he.2⟩)) ?_
        simp only [Act.put, List.setIfInBounds_toArray, List.set_cons_succ, List.set_cons_zero]
        refine gq_val (v := .bool true) (fun _ => trivial) rfl (fun w' hw' => rfl) ?_
        simp only [Act.put, List.setIfInBounds_toArray, List.set_cons_succ, List.set_cons_zero]
        refine gq_val (v := slv s) (fun _ => trivial) rfl (fun w' hw' => run_loadSlp rfl (HS3.out.next hw')) ?_
        simp only [Act.put, List.setIfInBounds_toArray, List.set_cons_succ, List.set_cons_zero]
        refine gq_val (v := .int .i64 y) (fun _ => trivial) rfl (fun w' hw' => run_loadInt rfl (((HY3.out.next hw').cell 0))) ?_
        simp only [Act.put, List.setIfInBounds_toArray, List.set_cons_succ, List.set_cons_zero]
        refine gq_call (v := .int .i64 (s.cell y)) (f := 57) (args := #[slv s, .int .i64 y]) (fun _ => trivial) rfl rfl (fun _ => run_call2 rfl enters_cellAt) (fun w' hw' => CallsIn.inRound l ((callsIn_wide.2 (cellAt_any s y w' HIN.out hit)).mono fun e w'' he => ⟨he.1, below_next hw' he.2⟩)) ?_
        simp only [Act.put, List.setIfInBounds_toArray, List.set_cons_succ, List.set_cons_zero]
        refine gq_val (v := .int .i64 x) (fun _ => trivial) rfl (fun w' hw' => run_loadInt rfl (((HX3.out.next hw').cell 0))) ?_
        simp only [Act.put, List.setIfInBounds_toArray, List.set_cons_succ, List.set_cons_zero]
        refine gq_val (v := .bool false) (fun _ => trivial) rfl (fun w' hw' => (run_leq (i := s.cell y) (j := x) rfl rfl).trans (by rw [show decide (s.cell y ≤ x) = false from hle])) ?_
        simp only [Act.put, List.setIfInBounds_toArray, List.set_cons_succ, List.set_cons_zero]
        refine gq_val (v := .bool false) (fun _ => trivial) rfl (fun w' hw' => run_pick (b := true) rfl) ?_
        simp only [Act.put, List.setIfInBounds_toArray, List.set_cons_succ, List.set_cons_zero]
        refine wpQuietIn_nil ?_
        rintro X4 hb4
        have H14 := hid (H13.out.next hb4)
        have HB4 := hid (below_next HB3.out hb4)
        have HX4 := hid (HX3.out.next hb4)
        have HY4 := hid (HY3.out.next hb4)
        rw [← HD.out] at H14
        clear hle hit hb4
        gi_wp2
        exact ⟨others_of HB4.out, _, ⟨rfl, H14.out, HX4.out, HY4.out⟩, fun q h => by rw [h]; exact H14.out.a.lt, fun q h => .inl h, Kept.below HB4.out⟩
    · replace hit : s.hit y = false := by simpa using hit
      have HD := hid (show windF ((edgesL ls).take (q + 1)) x y = windF ((edgesL ls).take q) x y by rw [HW.out]; unfold stepW; rw [← HSS.out, hit]; rfl)
      refine gq_val (v := slv s) (fun _ => trivial) rfl (fun w' hw' => run_loadSlp rfl (HS3.out.next hw')) ?_
      simp only [Act.put, List.setIfInBounds_toArray, List.set_cons_succ, List.set_cons_zero]
      refine gq_val (v := .int .i64 y) (fun _ => trivial) rfl (fun w' hw' => run_loadInt rfl (((HY3.out.next hw').cell 0))) ?_
      simp only [Act.put, List.setIfInBounds_toArray, List.set_cons_succ, List.set_cons_zero]
      refine gq_call (v := .bool false) (f := 56) (args := #[slv s, .int .i64 y]) (fun _ => trivial) rfl rfl (fun _ => run_call2 rfl enters_crosses) (fun w' hw' => CallsIn.inRound l ((callsIn_wide.2 (crosses_f s y w' hit)).mono fun e w'' he => ⟨he.1, below_next hw' he.2⟩)) ?_
      simp only [Act.put, List.setIfInBounds_toArray, List.set_cons_succ, List.set_cons_zero]
      refine gq_val (v := .bool false) (fun _ => trivial) rfl (fun w' hw' => rfl) ?_
      simp only [Act.put, List.setIfInBounds_toArray, List.set_cons_succ, List.set_cons_zero]
      refine gq_skip (fun _ => trivial) rfl ?_
      simp only [Act.put, List.setIfInBounds_toArray, List.set_cons_succ, List.set_cons_zero]
      refine gq_skip (fun _ => trivial) rfl ?_
      simp only [Act.put, List.setIfInBounds_toArray, List.set_cons_succ, List.set_cons_zero]
      refine gq_skip (fun _ => trivial) rfl ?_
      simp only [Act.put, List.setIfInBounds_toArray, List.set_cons_succ, List.set_cons_zero]
      refine gq_skip (fun _ => trivial) rfl ?_
      simp only [Act.put, List.setIfInBounds_toArray, List.set_cons_succ, List.set_cons_zero]
      refine gq_skip (fun _ => trivial) rfl ?_
      simp only [Act.put, List.setIfInBounds_toArray, List.set_cons_succ, List.set_cons_zero]
      refine gq_val (v := .bool false) (fun _ => trivial) rfl (fun w' hw' => run_pick (b := false) rfl) ?_
      simp only [Act.put, List.setIfInBounds_toArray, List.set_cons_succ, List.set_cons_zero]
      refine wpQuietIn_nil ?_
      rintro X4 hb4
      have H14 := hid (H13.out.next hb4)
      have HB4 := hid (below_next HB3.out hb4)
      have HX4 := hid (HX3.out.next hb4)
      have HY4 := hid (HY3.out.next hb4)
      rw [← HD.out] at H14
      clear hit hb4
      gi_wp2
      exact ⟨others_of HB4.out, _, ⟨rfl, H14.out, HX4.out, HY4.out⟩, fun q h => by rw [h]; exact H14.out.a.lt, fun q h => .inl h, Kept.below HB4.out⟩
  case done =>
    clear HE0 HXX HXY
    rintro D M X hD ⟨-, h1, -, -⟩ hK
    rw [List.take_of_length_le (Nat.le_refl _)] at h1
    have H1 := hid h1
    have HK := hid hK
    obtain ⟨u0, -⟩ := h1.a.read1
    clear h1 hK
    obtain ⟨W, hW⟩ : ∃ W, W = windF (edgesL ls) x y := ⟨_, rfl⟩
    rw [← hW] at H1 u0
    have HWE := hid hW
    clear hW
    gi_wp2
    refine ⟨by simp, .inl ⟨_, _, rfl, run_takeDeferred HK.out, ?_⟩⟩
    refine ⟨.tuple #[.int .i64 W, .int .i64 0], by simp [results, Try.f19, go_sem], by rw [HWE.out, HLS.out], ?_⟩
    exact (H1.out.put _ (by omega) HK.out rfl rfl).b
  case stop =>
    rintro D c k A hD hk h hK
    exact h.elim
theorem wind_ok (A : Option Addr) (ls : List Ln) (n c : Nat) (x y : Int) (w : World) (hn : n = ls.length) (hl : n ≤ maxLen) (hs : Lns w A ls) (h : lchk ls = 0) (hx : -8192 ≤ x ∧ x ≤ 8191) (hy : -8192 ≤ y ∧ y ≤ 8191) :
    Calls Try.prog 19 #[.slice A n c, .int .i64 x, .int .i64 y] w fun e w' => e = .returned (.tuple #[.int .i64 (windF (edgesL ls) x y), .int .i64 0]) ∧ Below w.heap.size w w' := by
  obtain ⟨es, rfl, hE⟩ := hs.ext
  exact wind_okE A es n c x y w (by simpa using hn) hl hE h hx hy
end Go.Proofs.Ytijkoaggcmgjiaa
