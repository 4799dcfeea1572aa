/- fill.permittedSlopes. -/
import Derived.Test.YtijkoaggcmgjiaaSrt
import Derived.Test.YtijkoaggcmgjiaaAre
import Derived.Lib.OwnBridge
import Derived.Sort.CutIn
import Derived.Shelf.SlSortCmp.NoneTotal
namespace Go.Proofs.Ytijkoaggcmgjiaa
open Go Go.RowKit Go.Shelf
attribute [local go_sem] Oper.semAt_some
set_option linter.unusedVariables false
set_option linter.unusedSimpArgs false

theorem wpListIn_append_S {F : Fence} {n : Nat} {ops : Array Oper} {rest : List Oper} {o : Oper} {a : Act} {Q : Exit → Act → World → Prop} {w : World} {B : Nat} {v : Value} {xs : List Sl} {s : Sl} (hgd : o.guard = none) (y x : Operand)
    (ho : o.op = .call { callee := .builtin .append, args := #[y, x], argTypes := #[72, 72] }) (hB : B ≤ w.heap.size) (hs : a.eval y = v) (hx : a.eval x = .slice (some ⟨w.heap.size, 0, none⟩) 1 1)
    (hown : OwnS w B v xs) (hl : xs.length ≤ 5000000000)
    (k : ∀ v' w', OwnS w' B v' (xs ++ [s]) → Gr v v' w w' → wpListIn F n Try.prog ops Q rest (a.put o.dst v') w') : wpListIn F n Try.prog ops Q (o :: rest) a (w.alloc (.cells (slc s) 77)) := by
  obtain ⟨v', w', h1, h2, h3⟩ := append_s (ty := o.type) (s := s) hB hown hl
  refine wpListIn_plain hgd fun K hK' => ?_
  unfold Oper.wpIn
  refine ⟨?_, ?_⟩
  · simp [Oper.about, ho, resolve, Target.leads, Sem.run_pure]
  · rw [Oper.semAt_plain F _ _ (by rw [ho]; intro c hc'; cases hc')]
    simp [execOp, ho, resolve, invoke, builtin, hs, hx, h1, Result.andThen]
    exact hK' _ _ (k v' w' h2 h3)

theorem ob (A : Option Addr) (n m c : Nat) : (Value.slice A n c).ownBlock = (Value.slice A m c).ownBlock := by cases A <;> rfl
/-- An edge that crosses rows of permitted cells. -/
def perS (s : Sl) : Bool := decide (s.t.y < s.b.y ∧ -8192 < s.b.y ∧ s.t.y < 8192)
def perL (es : List Ed) : List Sl := (es.map fun e => slp e.1 e.2).filter perS
theorem perL_take {es : List Ed} {k : Nat} {e : Ed} (h : es[k]? = some e) : perL (es.take (k + 1)) = perL (es.take k) ++ (if perS (slp e.1 e.2) then [slp e.1 e.2] else []) := by
  unfold perL
  rw [List.take_add_one, h, List.map_append, List.filter_append]
  congr 1
  by_cases hp : perS (slp e.1 e.2) = true
  · rw [if_pos hp]; simp [hp]
  · rw [if_neg hp]; simp [hp]
theorem perL_len (es : List Ed) : (perL es).length ≤ es.length := by unfold perL; exact Nat.le_trans (List.length_filter_le _ _) (by simp)
/-- What the loop has in memory. -/
structure Ps (w : World) (v : Nat) (A : Option Addr) (n c : Nat) (es : List LE) (val : Value) (xs : List Sl) (X : World) : Prop where
  e : Eb w v 72 val A n c es X
  o : OwnS X (v + 2) val xs
theorem OwnS.putS {A : World} {B : Nat} {v : Value} {xs : List Sl} (h : OwnS A B v xs) {l : Nat} {o : Obj} (o' : Obj) (ho : A.heap[l]? = some o) (h1 : o.isCells = false) : OwnS (A.putObj l o') B v xs := by
  refine h.keep fun k hk => World.putObj_heap_other fun e => ?_
  subst e
  rcases h.2 with ⟨rfl, -⟩ | ⟨g, cap, cur, hv, -, hh, -⟩
  · cases hk
  · rw [hv] at hk
    cases hk
    rw [ho] at hh
    cases hh
    cases h1
theorem OwnS.cellsB {A : World} {B : Nat} {v : Value} {xs : List Sl} (h : OwnS A B v xs) {l : Nat} {o : Obj} (hv : v.ownBlock = some l) (ho : A.heap[l]? = some o) : o.isCells = true := by
  rcases h.2 with ⟨rfl, -⟩ | ⟨g, cap, cur, hv2, -, hh, -⟩
  · cases hv
  · rw [hv2] at hv
    cases hv
    rw [ho] at hh
    cases hh
    rfl
section
variable {w X Y : World} {v : Nat} {A : Option Addr} {n c : Nat} {es : List LE} {val : Value} {xs : List Sl}
theorem Ps.next (h : Ps w v A n c es val xs X) (hb : Below X.heap.size X Y) : Ps w v A n c es val xs Y := ⟨h.e.next hb, h.o.next hb⟩
theorem Ps.put (h : Ps w v A n c es val xs X) {l : Nat} {o : Obj} (o' : Obj) (hl : v + 2 ≤ l) (ho : X.heap[l]? = some o) (h1 : o.isCells = false) (h2 : o.isWalk = false) : Ps w v A n c es val xs (X.putObj l o') :=
  ⟨h.e.put o' hl ho h1 h2, h.o.putS o' ho h1⟩
/-- Behind an append and the store of what it hands back. -/
theorem Ps.more (h : Ps w v A n c es val xs X) {ys : List Sl} {val' : Value} (ho : OwnS Y (v + 2) val' ys) (hg : Gr val val' X Y) : Ps w v A n c es val' ys (Y.setCell ⟨v, 0, none⟩ val') := by
  have hne : ∀ q, val.ownBlock = some q → v + 2 ≤ q := fun q hq => (h.o.ge q hq).1
  have hb : Below (v + 2) X Y := hg.below h.e.z hne
  have hv : Var Y v #[val] 72 := h.e.a.below hb (by omega)
  have hl : LnsE Y A es := by
    have hbb : Below v X Y := hb.mono (by omega)
    intro hn
    obtain ⟨a, e, hl, hr⟩ := h.e.l hn
    have ha := h.e.low.1 hn a e
    refine ⟨a, e, Nat.lt_of_lt_of_le hl hb.size, fun i s hi => ?_⟩
    obtain ⟨c0, c1, hp, hle⟩ := hr i s hi
    have hab : (a.add (i * 2)).block < v := by rw [add_block]; exact ha
    refine ⟨(hbb.cell hab).trans c0, ?_, fun hne => ?_, hle⟩
    · have e1 : Y.cell? ⟨(a.add (i * 2)).block, (a.add (i * 2)).off + 1, none⟩ = X.cell? ⟨(a.add (i * 2)).block, (a.add (i * 2)).off + 1, none⟩ := hbb.cell hab
      exact e1.trans c1
    · obtain ⟨b, eb, hbl, hq⟩ := hp hne
      exact ⟨b, eb, Nat.lt_of_lt_of_le hbl hb.size, fun j q hj => (hq j q hj).below hbb (by rw [add_block]; exact h.e.low.2 s (List.mem_of_getElem? hi) hne b eb)⟩
  have hE : Eb w v 72 val A n c es Y := ⟨h.e.b.trans (hb.mono (by have := h.e.w; omega)), Nat.le_trans h.e.z hb.size, hv, h.e.g.below hb (by omega), hl, h.e.low, h.e.w⟩
  refine ⟨hE.set val', ho.keep fun k hk => Below.heap_setCell _ _ _ _ fun e => ?_⟩
  have := (ho.ge k hk).1
  have e' : k = v := e
  omega
end

set_option maxRecDepth 100000 in
set_option maxHeartbeats 4000000 in
theorem psl_any (A : Option Addr) (es : List LE) (n c : Nat) (w : World) (hn : n = es.length) (hl : n ≤ maxLen) (hs : LnsE w A es) (hlen : (edgesL (es.map LE.ln)).length ≤ 1000000) :
    Calls Try.prog 43 #[.slice A n c] w fun e w' => (∃ val xs, e = .returned val ∧ OwnS w' w.heap.size val xs ∧ xs.Perm (perL (edgesL (es.map LE.ln))) ∧ List.Pairwise (fun p q => p.t.y ≤ q.t.y) xs) ∧ Below w.heap.size w w' := by
  have HS := hid hs
  have HN := hid hn
  clear hn hs
  refine (callsIn_wide (n := 6)).1 ?_
  refine callsIn_of_wp_marks Try.func43 rfl trivial ?_ rfl
  simp only [Try.ntmps43, List.size_toArray, List.length_cons, List.length_nil, Nat.reduceAdd, Nat.reduceSub, Array.replicate_succ, Array.replicate_zero, List.push_toArray, List.append_toArray, List.nil_append, List.cons_append]
  gi_wp2
  refine ⟨trivial, ?_⟩
  refine (callsIn_wide.2 (edges_make _ _ _ _)).mono ?_
  rintro e X ⟨rfl, hX⟩
  rw [show (w.alloc (.cells #[.slice none 0 0] 72)).heap.size = w.heap.size + 1 by simp]
  have HE0 := hid (show Ps w w.heap.size A n c es (.slice none 0 0) [] X from ⟨by rw [hX]; exact Eb.start (Below.refl _ _) HS.out, OwnS.nil _ _⟩)
  have sX : X.heap.size = w.heap.size + 2 := by rw [hX]; simp
  clear hX
  obtain ⟨ls, hls⟩ : ∃ ls, ls = es.map LE.ln := ⟨_, rfl⟩
  have HLS := hid hls
  rw [← hls] at hlen
  have HLEN := hid hlen
  gi_wp2
  clear hls hlen
  refine range_all (gf := 96) (lb := #[.pointer (some ⟨w.heap.size + 1, 0, none⟩)]) rfl (by omega) rfl trivial (enters_of Try.func96 (by kernel_rfl) rfl) (EdAt ls) (edgesL ls).length
    (fun q M X => ∃ val, M = (fun z => z = w.heap.size ∨ val.ownBlock = some z) ∧ Ps w w.heap.size A n c es val (perL ((edgesL ls).take q)) X)
    (fun cd j X => False)
    (by rw [HLS.out]; exact edges_iter 5 (by omega) (w.heap.size + 1) A es n c _ HN.out hl (fun q M X h => by obtain ⟨val, -, h1⟩ := h; exact ⟨h1.e.g.cell 0, h1.e.l⟩)) (fun q v X h => by obtain ⟨p, -, rfl⟩ := h; rfl)
    (fun q M X Y h hb => by obtain ⟨val, h0, h1⟩ := h; exact ⟨val, h0, h1.next hb⟩)
    (fun q M X l o o' h hl ho e1 e2 => by obtain ⟨val, h0, h1⟩ := h; exact ⟨val, h0, h1.put o' (by omega) ho e1 e2⟩)
    (fun cd q X l o o' h hl ho e1 e2 => h)
    (fun z => z = w.heap.size ∨ Value.ownBlock (.slice none 0 0) = some z) (fun q h => by rcases h with h | h; (rw [sX, h]; omega); cases h) ⟨_, rfl, HE0.out⟩
    (fun q M v a' X => ∃ val, M = (fun z => z = w.heap.size ∨ val.ownBlock = some z) ∧ Ps w w.heap.size A n c es val (perL ((edgesL ls).take q)) X ∧
      ∃ B p, w.heap.size + 2 ≤ B ∧ (edgesL ls)[q]? = some p ∧ Var X B (pcel p.1) 40 ∧ Var X (B + 1) (pcel p.2) 40 ∧ a' = { tmps := #[.slice A n c, undef, .slice none 0 0, .pointer (some ⟨w.heap.size, 0, none⟩), .pointer (some ⟨B, 0, none⟩), .pointer (some ⟨B + 1, 0, none⟩), undef, .slice A n c, .func (.func 96) #[] #[.pointer (some ⟨w.heap.size + 1, 0, none⟩)], ptv p.1, ptv p.2, undef, undef, undef, undef, undef, undef, undef, undef, undef, undef, undef, undef, undef, undef, undef, undef, undef, undef, undef, undef, undef, undef, undef, undef, undef, undef, undef, undef, undef], defers := [] })
    (fun q M v a' X l o o' h hl ho e1 e2 => by
      obtain ⟨val, h0, h1, B, p, hB, h4, h5, h6, h7⟩ := h
      have no : ∀ {b cs t}, Var X b cs t → b ≠ l := fun hv e => by subst e; unfold Var at hv; rw [ho] at hv; cases hv; cases e1
      exact ⟨val, h0, h1.put o' (by omega) ho e1 e2, B, p, hB, h4, h5.keep (World.putObj_heap_other (no h5)), h6.keep (World.putObj_heap_other (no h6)), h7⟩)
    ?assign ?body ?done ?stop
  case assign =>
    clear HE0
    rintro l q M v X K ⟨val, h0, h1⟩ hM ⟨p, hp, rfl⟩ hk hK
    gi_wp2
    have hb : Below X.heap.size X ((X.alloc (.cells (pcel p.1) 40)).alloc (.cells (pcel p.2) 40)) := below_alloc (below_alloc (Below.refl _ _) _) _
    exact hK _ _ (others_of hb) (Kept.below hb) ⟨val, h0, h1.next hb, X.heap.size, p, h1.e.z, hp, (Var.new _ _ _ _ rfl).alloc _, Var.new _ _ _ _ (by simp), rfl⟩
  case body =>
    clear HE0
    rintro l q M v a' X ⟨val, rfl, h1, B, p, hB, h4, h5, h6, rfl⟩ hk
    have HW := hid (perL_take h4)
    obtain ⟨p0, p1, -⟩ := h5.read2
    obtain ⟨q0, q1, -⟩ := h6.read2
    have H1 := hid h1
    clear h1 h4 h5 h6
    gi_wp2
    refine ⟨trivial, ?_⟩
    refine CallsIn.inRound l ((callsIn_wide.2 (slope_any p.1 p.2 X)).mono ?_)
    rintro e X2 ⟨rfl, hb2⟩
    obtain ⟨s, hs⟩ : ∃ s, s = slp p.1 p.2 := ⟨_, rfl⟩
    rw [← hs] at HW ⊢
    clear hs p0 p1 q0 q1
    have hb3 := below_alloc hb2 (.cells (slc s) 77)
    have H13 := hid (H1.out.next hb3)
    have HS3 := hid (Var.new X2 (slc s) 77 _ rfl)
    have HB3 := hid hb3
    clear hb2 hb3
    obtain ⟨Av, cv, hval, -⟩ := H13.out.o.is
    subst hval
    obtain ⟨u0, u1⟩ := H13.out.e.a.read1
    by_cases hp1 : s.t.y < s.b.y
    · by_cases hp2 : -8192 < s.b.y
      · by_cases hp3 : s.t.y < 8192
        · have HD := hid (show perL ((edgesL ls).take (q + 1)) = perL ((edgesL ls).take q) ++ [s] by rw [HW.out, if_pos (by unfold perS; simp; omega)])
          obtain ⟨z0, z1, z2, z3, z4, -⟩ := HS3.out.read5
          have HSZ := hid H13.out.e.z
          have hlen2 := hid (show (perL ((edgesL ls).take q)).length ≤ 5000000000 by have := perL_len ((edgesL ls).take q); rw [List.length_take] at this; have := HLEN.out; omega)
          gi_upto_region 7 with fail
          obtain ⟨X3, hX3⟩ : ∃ X3, X3 = X2.alloc (.cells (slc s) 77) := ⟨_, rfl⟩
          rw [← hX3] at H13 HS3 HB3 HSZ u0 u1 z0 z1 z2 z3 z4
          rw [← hX3]
          clear hX3
          obtain ⟨xs, hxs⟩ : ∃ xs, xs = perL ((edgesL ls).take q) := ⟨_, rfl⟩
          rw [← hxs] at H13 HD hlen2 u0
          clear hxs
          gi_wp2_with (gi_at_builtin; refine wpListIn_append_S (xs := xs) (s := s) rfl _ _ rfl HSZ.out rfl rfl H13.out.o hlen2.out ?_)
          intro v' w' hown hgr
          obtain ⟨g', c', hv', -⟩ := hown.one (by simp)
          rw [show (xs ++ [s]).length = xs.length + 1 by simp] at hv'
          subst hv'
          have hne : (Value.slice Av xs.length cv).ownBlock ≠ some w.heap.size := fun e => by have := (H13.out.o.ge _ e).1; omega
          obtain ⟨y0, y1⟩ := (hgr.var H13.out.e.a hne).read1
          have HM := hid (H13.out.more hown hgr)
          have HG := hid hgr
          have HO := hid hown
          clear hown hgr u0 u1 z0 z1 z2 z3 z4 hne
          gi_wp2
          refine ⟨(others_of HB3.out).trans ((KeepsOthers.of_grownBy HG.out.g (fun r o e ho => H13.out.o.cellsB e ho)).trans (KeepsOthers.setCell _ _ _)), _, ⟨_, rfl, by rw [HD.out]; exact HM.out⟩, fun z h => ?_, fun z h => ?_, ?_⟩
          · rw [World.size_setCell]
            rcases h with h | h
            · have := HM.out.e.a.lt; rw [World.size_setCell] at this; rw [h]; exact this
            · exact (HO.out.ge z h).2
          · rcases h with h | h
            · exact .inl (.inl h)
            · rcases HG.out.2 z h with k | k
              · exact .inl (.inr ((ob Av _ xs.length cv).trans k))
              · exact .inr (Nat.le_trans HB3.out.size k)
          · exact (Kept.below HB3.out).trans ((Kept.grown HG.out.g (fun r e => .inr ((ob Av _ xs.length cv).trans e))).trans (Kept.set (p := ⟨w.heap.size, 0, none⟩) (.inl rfl) _))
        · have HD := hid (show perL ((edgesL ls).take (q + 1)) = perL ((edgesL ls).take q) by rw [HW.out, if_neg (by rw [show perS s = false by unfold perS; simp; omega]; simp), List.append_nil])
          have HSZ := hid H13.out.e.z
          gi_wp2
          exact ⟨others_of HB3.out, _, ⟨_, rfl, by rw [HD.out]; exact H13.out⟩, fun q h => by
            rcases h with h | h
            · rw [h]; exact H13.out.e.a.lt
            · exact (H13.out.o.ge q h).2, fun q h => .inl h, Kept.below HB3.out⟩
      · have HD := hid (show perL ((edgesL ls).take (q + 1)) = perL ((edgesL ls).take q) by rw [HW.out, if_neg (by rw [show perS s = false by unfold perS; simp; omega]; simp), List.append_nil])
        have HSZ := hid H13.out.e.z
        gi_wp2
        exact ⟨others_of HB3.out, _, ⟨_, rfl, by rw [HD.out]; exact H13.out⟩, fun q h => by
          rcases h with h | h
          · rw [h]; exact H13.out.e.a.lt
          · exact (H13.out.o.ge q h).2, fun q h => .inl h, Kept.below HB3.out⟩
    · have HD := hid (show perL ((edgesL ls).take (q + 1)) = perL ((edgesL ls).take q) by rw [HW.out, if_neg (by rw [show perS s = false by unfold perS; simp; omega]; simp), List.append_nil])
      have HSZ := hid H13.out.e.z
      gi_wp2
      exact ⟨others_of HB3.out, _, ⟨_, rfl, by rw [HD.out]; exact H13.out⟩, fun q h => by
        rcases h with h | h
        · rw [h]; exact H13.out.e.a.lt
        · exact (H13.out.o.ge q h).2, fun q h => .inl h, Kept.below HB3.out⟩
  case done =>
    clear HE0
    rintro D M X hD ⟨val, -, h1⟩ hK
    rw [List.take_of_length_le (Nat.le_refl _)] at h1
    have H1 := hid h1
    have HK := hid hK
    obtain ⟨Av, cv, hval, -⟩ := h1.o.is
    subst hval
    obtain ⟨u0, -⟩ := h1.e.a.read1
    clear h1 hK
    obtain ⟨xs, hxs⟩ : ∃ xs, xs = perL (edgesL ls) := ⟨_, rfl⟩
    rw [← hxs] at H1 u0
    have HXS := hid hxs
    have hxl := hid (show xs.length ≤ 1000000 by rw [hxs]; exact Nat.le_trans (perL_len _) HLEN.out)
    clear hxs
    gi_wp2
    refine ⟨trivial, ?_⟩
    refine (callsIn_wide.2 (sortS_any _ xs (w.heap.size + 2) X H1.out.e.z H1.out.o (by have := hxl.out; omega))).mono ?_
    rintro e X2 ⟨rfl, qs, hp, hpw, ho, hgr⟩
    have hne : (Value.slice Av xs.length cv).ownBlock ≠ some w.heap.size := fun e => by have := (H1.out.o.ge _ e).1; omega
    obtain ⟨u0, -⟩ := (hgr.var H1.out.e.a hne).read1
    have hKX : X2.heap[D]? = some (.deferred (some [])) := (hgr.g.block D (Array.getElem?_eq_some_iff.1 HK.out).1 (fun e => by
      have := H1.out.o.cellsB e.symm HK.out
      cases this)).trans HK.out
    have HKX := hid hKX
    have HB2 := hid (show Below w.heap.size w X2 from H1.out.e.b.trans (hgr.below (show w.heap.size ≤ X.heap.size by have := H1.out.e.z; omega) (fun k hk => by have := (H1.out.o.ge k hk).1; omega)))
    have HO2 := hid ho
    have HP := hid hp
    have HPW := hid hpw
    clear hne hKX ho hgr hp hpw
    gi_wp2
    refine ⟨by simp, .inl ⟨_, _, rfl, run_takeDeferred HKX.out, ?_⟩⟩
    have hl2 : qs.length = xs.length := HP.out.length_eq
    refine ⟨.slice Av xs.length cv, by simp [results, Try.f43, go_sem], ⟨_, qs, rfl, (HO2.out.mono (by omega)).putS _ HKX.out rfl, by rw [← HLS.out, ← HXS.out]; exact HP.out, HPW.out⟩, ?_⟩
    exact HB2.out.trans (belowK_b (w := w) (Nat.le_refl _) X2 D _ _ (by omega) HKX.out rfl rfl)
  case stop =>
    rintro D c k A hD hk h hK
    exact h.elim
end Go.Proofs.Ytijkoaggcmgjiaa
