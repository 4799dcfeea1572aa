/- dash.Dash of lines and patterns that are permitted. -/
import Derived.Test.YtjflgblplmgjlaaDsh
import Derived.Test.YtjflgblplmgjlaaKfv
namespace Go.Proofs.Ytjflgblplmgjlaa
open Go Go.RowKit Go.Shelf
attribute [local go_sem] Oper.semAt_some
set_option linter.unusedVariables false
set_option linter.unusedSimpArgs false

theorem own_lns {X : World} {B : Nat} {v : Value} {es : List LE} (hr : X.ownsRow B 27 2 v es.length (lflE es)) (hf : ∀ e ∈ es, FinE X v e) : ∃ A c, v = .slice A es.length c ∧ LnsE X A es := by
  rcases hr.2 with ⟨h1, h2⟩ | ⟨g, cap, cur, h1, h3, h4, h5, h6, h7, h8⟩
  · have : es = [] := List.eq_nil_of_length_eq_zero h2
    subst this
    exact ⟨none, 0, h1, LnsE.nil _ _⟩
  · refine ⟨some ⟨g, 0, none⟩, cap, h1, fun _ => ⟨_, rfl, (Array.getElem?_eq_some_iff.1 h4).1, fun i e he => ?_⟩⟩
    have hc : ∀ j u, (lflE es)[j]? = some u → X.cell? ⟨g, j, none⟩ = some u := fun j u hu => by
      have := World.ownsRow.cellAt (h1 ▸ hr) j (by
        rcases Nat.lt_or_ge j (lflE es).length with k | k
        · rw [lflE_length] at k; exact k
        · rw [List.getElem?_eq_none k] at hu; cases hu)
      rw [this]; exact hu
    obtain ⟨g1, g2⟩ := lflE_get es i e he
    have hp := hf e (List.mem_of_getElem? he)
    rw [adr0]
    exact ⟨hc _ _ g1, hc _ _ g2, hp.p, hp.le⟩
theorem dash_fin {X : World} {R : Ending → World → Prop} {D r1 r2 n c : Nat} {A : Option Addr} {z : Int} {tmps : Array Value} (h1 : X.cell? ⟨r1, 0, none⟩ = some (.slice A n c)) (h2 : X.cell? ⟨r2, 0, none⟩ = some (.int .i64 z)) (hK : X.heap[D]? = some (.deferred (some [])))
    (hp : tmps.getD 6 undef = .pointer (some ⟨r1, 0, none⟩)) (hq : tmps.getD 7 undef = .pointer (some ⟨r2, 0, none⟩)) (hR : R (.returned (.tuple #[.slice A n c, .int .i64 z])) (X.putObj D (.deferred none))) :
    bodyPostM Fence.wide 6 Try.prog Try.f11 R .ret { tmps := tmps, defers := [{ target := .collected D, args := #[] }] } X := by
  refine ⟨by simp, .inl ⟨_, _, rfl, run_takeDeferred hK, ?_⟩⟩
  exact ⟨.tuple #[.slice A n c, .int .i64 z], resLs rfl hp hq (cell_kept h1 (grownBy_putObj' _ D (.deferred none)) (fun r e => by cases e; exact ⟨_, hK, rfl⟩)) (cell_kept h2 (grownBy_putObj' _ D (.deferred none)) (fun r e => by cases e; exact ⟨_, hK, rfl⟩)), hR⟩
theorem own_g {w3 : World} {B : Nat} {v : Value} {ss : List Sd} (h : OwnD w3 B v ss) (z : Nat) (hz : z < w3.heap.size) (hB : z ≤ B) :
    ∃ g A c, v = .slice A ss.length c ∧ ss.length ≤ c ∧ c ≤ maxLen ∧ RowD w3 A ss ∧ (∀ a, A = some a → a.block = g) ∧ z ≤ g ∧ g < w3.heap.size := by
  obtain ⟨A1, c1, h1, h2⟩ := h.is
  rcases h.2 with ⟨h3, h4⟩ | ⟨g, cap, cur, h3, h4, h5, h6, h7, -⟩
  · have e := h3.symm.trans h1
    injection e with e1 e2 e3
    subst e1; subst e3
    exact ⟨z, none, 0, h1, by omega, Nat.zero_le _, h2, fun a ha => (by cases ha), Nat.le_refl _, hz⟩
  · have e := h3.symm.trans h1
    injection e with e1 e2 e3
    subst e1; subst e3
    exact ⟨g, some ⟨g, 0, none⟩, cap, h1, h6, h7, h2, fun a ha => by rw [← Option.some.inj ha], by omega, (Array.getElem?_eq_some_iff.1 h5).1⟩
set_option maxRecDepth 100000 in
set_option maxHeartbeats 8000000 in
theorem dash_ok (A B : Option Addr) (ps : List P2) (pat : List Int) (n c m d : Nat) (cl : Bool) (phase : Int) (w : World) (hn : n = ps.length) (hnl : n ≤ 2000000) (hc : n ≤ c ∧ c ≤ maxLen) (hs : Pts w A ps) (h0 : lchk [⟨ps, cl⟩] = 0) (hm : m = pat.length) (hml : m ≤ maxLen) (hp : IntsA w B pat) (hk : pchk pat phase = 0) :
    Calls Try.prog 11 #[.agg #[.slice A n c, .bool cl], .slice B m d, .int .i64 phase] w (DashIs ps cl pat phase w) := by
  have HS := hid hs
  have HN := hid hn
  have HCC := hid hc
  have H0 := hid h0
  have HM := hid hm
  have HML := hid hml
  have HP := hid hp
  have HK := hid hk
  have HPI := hid (pin_of h0)
  have HNL := hid hnl
  clear hn hs hc h0 hm hml hp hk hnl
  refine (callsIn_wide (n := 6)).1 ?_
  refine callsIn_of_wp_marks Try.func11 rfl trivial ?_ rfl
  simp only [Try.ntmps11, List.size_toArray, List.length_cons, List.length_nil, Nat.reduceAdd, Nat.reduceSub, Array.replicate_succ, Array.replicate_zero, List.push_toArray, List.append_toArray, List.nil_append, List.cons_append]
  gi_wp2
  have HW := hid (dW_is w A n c cl)
  rw [show ((w.alloc (.cells #[.slice A n c, .bool cl] 27)).alloc (.cells #[.slice none 0 0] 22)).alloc (.cells #[.int .i64 0] 31) = dW w A n c cl from rfl]
  generalize dW w A n c cl = W0 at HW ⊢
  obtain ⟨s0, hs0⟩ : ∃ s0, s0 = w.heap.size := ⟨_, rfl⟩
  have HS0 := hid hs0
  have HSZ := hid (show s0 + 1 + 1 + 1 = W0.heap.size by have := HW.out.2.1; omega)
  rw [← hs0]
  clear hs0
  rw [HSZ.out]
  refine ⟨trivial, ?_⟩
  refine (callsIn_wide.2 (fcheck_any _ [⟨ps, cl⟩] 1 1 _ rfl (by decide) (lns_lit HN.out (HS.out.next HW.out.1) HCC.out))).mono ?_
  rintro e w1 ⟨rfl, hb⟩
  have HB1 := hid (below_next (below_alloc (Below.refl W0.heap.size W0) _) hb)
  clear hb
  rw [H0.out]
  gi_wp2
  refine ⟨trivial, ?_⟩
  refine (callsIn_wide.2 (pchk_any B pat phase m d _ HM.out HML.out (HP.out.next (below_next HW.out.1 HB1.out)))).mono ?_
  rintro e w2 ⟨rfl, hb⟩
  rw [HK.out]
  have HB2 := hid (below_next HB1.out hb)
  have HV0 := hid (show Var w2 s0 #[.slice A n c, .bool cl] 27 by rw [HS0.out]; exact HW.out.2.2.1.next HB2.out)
  clear hb HB1
  obtain ⟨z0, z1, -⟩ := HV0.out.read2
  gi_wp2
  refine ⟨trivial, ?_⟩
  refine (callsIn_wide.2 (sides_any A ps n c cl _ HN.out HNL.out (HS.out.next (below_next HW.out.1 HB2.out)) HPI.out)).mono ?_
  rintro e w3 ⟨v, rfl, ho, hb⟩
  obtain ⟨qs, hqs⟩ : ∃ qs, qs = walkP ps cl := ⟨_, rfl⟩
  have HQS := hid hqs
  rw [← hqs] at ho
  clear hqs
  have HB3 := hid (below_next HB2.out hb)
  have HO3 := hid ho
  obtain ⟨g, A1, c1, hA1, hle1, hcm1, hrd1, hge1⟩ := own_g ho s0 (by have := HB3.out.size; have := HSZ.out; omega) (by have := HB2.out.size; have := HSZ.out; omega)
  have HGE := hid hge1
  have HRD := hid hrd1
  have HLE := hid hle1
  have HCM := hid hcm1
  subst hA1
  clear ho hb hle1 hcm1 hrd1 hge1 z0 z1
  gi_wp2
  refine ⟨trivial, ?_⟩
  refine (callsIn_wide.2 (lenof_any A1 (sidesP qs) _ c1 _ rfl (Nat.le_trans HLE.out HCM.out) ((HRD.out.next (below_alloc (Below.refl _ _) _)).next (below_alloc (Below.refl _ _) _)))).mono ?_
  rintro e w4 ⟨rfl, hw4⟩
  rw [sidesP_last]
  obtain ⟨b, hb⟩ : ∃ b, b = w3.heap.size := ⟨_, rfl⟩
  have HBB := hid hb
  rw [← hb]
  clear hb
  gi_wp2
  refine ⟨trivial, ?_⟩
  refine (callsIn_wide.2 (spans_make B m d phase (lenP qs) w4)).mono ?_
  rintro e X ⟨rfl, hX⟩
  rw [show w4.heap.size = b + 2 by rw [← hw4, HBB.out]; simp]
  have HXE := hid hX
  clear hX
  gi_wp2
  obtain ⟨q1, q2, q3, q4, q5⟩ := pchk_ok HK.out
  have HOKP := hid q3
  have HNEP := hid (show pat ≠ [] from fun e => by rw [e] at q1; simp at q1)
  obtain ⟨sp, hsp⟩ : ∃ sp, sp = spans pat (-(phase % perd pat)) (lenP qs) := ⟨_, rfl⟩
  have HSPE := hid hsp
  have HSD := hid (show spD ps cl pat phase = sp by rw [hsp, HQS.out]; rfl)
  have HQL := hid (show qs.length ≤ 2000001 by have := walkP_len ps cl; have := HN.out; have := HNL.out; rw [HQS.out]; omega)
  have HQI := hid (show ∀ p ∈ qs, PIn p by rw [HQS.out]; exact walkP_in HPI.out)
  have HLB := hid (show 0 ≤ lenP qs ∧ lenP qs ≤ 1000000000000 from ⟨posn_nn _ _, by
    have h1 := posn_le HQI.out (qs.length - 1)
    have h2 := HQL.out
    unfold lenP
    omega⟩)
  have hsz4 : w4.heap.size = b + 2 := by rw [← hw4, HBB.out]; simp
  have HX : Hid (Nums w (b + 2 + 3) b g (b + 1) (s0 + 1) (s0 + 1 + 1) (b + 2 + 1) (b + 2) (b + 2 + 2) ∧ DSt w (b + 2 + 3) b g (b + 1) (s0 + 1) (s0 + 1 + 1) (b + 2 + 1) (b + 2) (b + 2 + 2) #[] (.int .i64 phase) (.slice B m d) (.int .i64 (lenP qs)) qs sp 0 (.slice none 0 0) [] 0 X ∧ X.heap.size = b + 2 + 3) := by
    have e0 := HS0.out
    have e1 := HSZ.out
    have e2 := HB3.out.size
    have e3 := HBB.out
    have e4 := HGE.out.2
    have bW := HW.out
    have bX : Below w4.heap.size w4 X := by rw [HXE.out]; exact below_alloc (below_alloc (below_alloc (Below.refl _ _) _) _) _
    have b4 : Below w3.heap.size w3 w4 := by rw [← hw4]; exact below_alloc (below_alloc (Below.refl _ _) _) _
    have b3 := below_next b4 bX
    have bAll : Below w.heap.size w X := below_next (below_next bW.1 HB3.out) b3
    refine hid ⟨⟨⟨by omega, by omega, by omega, by omega, by omega⟩, ⟨by omega, by omega, by omega, by omega, by omega, by omega, by omega, by omega⟩, ⟨by omega, by omega, by omega, by omega, by omega, by omega⟩, ⟨by omega, by omega, by omega, by omega, by omega, by omega⟩, by omega⟩, ⟨bAll, by rw [HXE.out]; simp [hsz4], ?_, ⟨Nat.zero_le _, by omega, A1, c1, ?_, ?_, HCM.out, ?_, HGE.out.1⟩, fun k' q _ _ => Past.zero _ _, ?_, ?_, ?_, ?_, ?_, World.ownsRow_nil _ _ _ 2, fun e he => (by cases he), rfl⟩, by rw [HXE.out]; simp [hsz4]⟩
    · refine Var.next ?_ bX
      rw [← hw4]
      exact Var.new _ _ _ _ (by rw [e3]; simp)
    · refine Var.next ?_ bX
      rw [← hw4, show qs.length - 1 - 0 = (sidesP qs).length by rw [sidesP_len]; omega]
      exact (Var.new _ _ _ _ e3).alloc _
    · rw [← sidesP_len qs]; exact HLE.out
    · rw [List.drop_zero]; exact HRD.out.next b3
    · rw [e0]; exact (bW.2.2.2.1.next HB3.out).next b3
    · rw [e0]; exact (bW.2.2.2.2.next HB3.out).next b3
    · rw [HXE.out]; exact (Var.new _ _ _ _ (by simp [hsz4])).alloc _
    · rw [HXE.out]; exact ((Var.new _ _ _ _ (by omega)).alloc _).alloc _
    · rw [HXE.out]; exact Var.new _ _ _ _ (by simp [hsz4])
  clear q1 q2 q3 q4 q5 hsp hsz4 hw4 HXE
  refine range_all (gf := 36) (lb := #[.pointer (some ⟨b + 2 + 1, 0, none⟩), .pointer (some ⟨b + 2, 0, none⟩), .pointer (some ⟨b + 2 + 2, 0, none⟩)]) rfl (by omega) rfl trivial (enters_of Try.func36 (by kernel_rfl) rfl) (SpAt sp) sp.length
    (fun k M X => ∃ v es j, M = Mut b (b + 1) v ∧ k ≤ 10000 ∧ DSt w (b + 2 + 3) b g (b + 1) (s0 + 1) (s0 + 1 + 1) (b + 2 + 1) (b + 2) (b + 2 + 2) #[] (.int .i64 phase) (.slice B m d) (.int .i64 (lenP qs)) qs sp k v es j X)
    (fun cd k X => cd = .ret ∧ 10000 < sp.length ∧ Below w.heap.size w X ∧ Var X (s0 + 1) #[.slice none 0 0] 22 ∧ Var X (s0 + 1 + 1) #[.int .i64 2] 31)
    (by rw [HSPE.out]; exact spans_iter 5 (by omega) (b + 2 + 1) (b + 2) (b + 2 + 2) B pat m d phase (lenP qs) _ rfl _ HM.out HK.out HLB.out (fun k M X h => by obtain ⟨v, es, j, -, -, h⟩ := h; exact ⟨h.xp.cell 0, h.xq.cell 0, h.xl.cell 0, HP.out.next h.be⟩)) (fun q v X h => by obtain ⟨p, -, rfl⟩ := h; rfl)
    (fun k M X Y h hb => by obtain ⟨v, es, j, h1, h0, h2⟩ := h; exact ⟨v, es, j, h1, h0, h2.next hb⟩)
    (fun k M X l o o' h hl ho e1 e2 => by obtain ⟨v, es, j, h1, h0, h2⟩ := h; exact ⟨v, es, j, h1, h0, h2.put o' (by have := HX.out.2.2; have := HX.out.2.1.be.size; omega) ho e1 e2⟩)
    (fun cd k X l o o' h hl ho e1 e2 => ⟨h.1, h.2.1, h.2.2.1.trans (belowK_b (w := w) (Nat.le_refl _) X l o o' (by have := HX.out.2.1.be.size; omega) ho e1 e2), h.2.2.2.1.kept (M := fun _ => False) (Kept.put o' ho e1) (fun hf => hf), h.2.2.2.2.kept (M := fun _ => False) (Kept.put o' ho e1) (fun hf => hf)⟩)
    (Mut b (b + 1) (.slice none 0 0)) (fun q h => by
      have h1 := HX.out.2.2
      rcases h with e | e | e
      · omega
      · omega
      · cases e) ⟨_, [], 0, rfl, Nat.zero_le _, HX.out.2.1⟩
    (fun k M vv a' X => ∃ v es j, M = Mut b (b + 1) v ∧ k ≤ 10000 ∧ DSt w (b + 2 + 3) b g (b + 1) (s0 + 1) (s0 + 1 + 1) (b + 2 + 1) (b + 2) (b + 2 + 2) #[] (.int .i64 phase) (.slice B m d) (.int .i64 (lenP qs)) qs sp k v es j X ∧
      ∃ p, sp[k]? = some p ∧ a' = { tmps := #[.agg #[.slice A n c, .bool cl], .slice B m d, .int .i64 phase, .pointer (some ⟨s0, 0, none⟩), undef, undef, .pointer (some ⟨s0 + 1, 0, none⟩), .pointer (some ⟨s0 + 1 + 1, 0, none⟩), .int .i64 0, .int .i64 0, .pointer (some ⟨b, 0, none⟩), .pointer (some ⟨b + 1, 0, none⟩), .int .i64 p.1, .int .i64 p.2, .agg #[.slice A n c, .bool cl], .slice (some ⟨W0.heap.size, 0, none⟩) 1 1, .int .i64 0, .int .i64 0, .bool false, undef, .slice B m d, .int .i64 phase, .int .i64 0, .int .i64 0, .bool false, undef, .agg #[.slice A n c, .bool cl], .slice A1 (sidesP qs).length c1, .agg #[.slice A1 (sidesP qs).length c1], .slice B m d, .int .i64 phase, .pointer (some ⟨b, 0, none⟩), .slice A1 (sidesP qs).length c1, .int .i64 (lenP qs), .func (.func 36) #[] #[.pointer (some ⟨b + 2 + 1, 0, none⟩), .pointer (some ⟨b + 2, 0, none⟩), .pointer (some ⟨b + 2 + 2, 0, none⟩)], .int .i64 p.1, .int .i64 p.2, undef, undef, undef, undef, undef, undef, undef, undef, undef, undef, undef], defers := [] })
    (fun k M vv a' X l o o' h hl ho e1 e2 => by
      obtain ⟨v, es, j, h1, h0, h2, h3⟩ := h
      exact ⟨v, es, j, h1, h0, h2.put o' (by have := HX.out.2.1.be.size; omega) ho e1 e2, h3⟩)
    ?assign ?body ?done ?stop
  case assign =>
    rintro l k M vv X K ⟨v, es, j, h1, h0, h2⟩ hM ⟨p, hp, rfl⟩ hk hK
    gi_wp2
    exact hK _ _ (KeepsOthers.refl _) (Kept.refl _ _) ⟨v, es, j, h1, h0, h2, p, hp, rfl⟩
  case body =>
    rintro l k M vv a' X ⟨v, es, j, rfl, hkm, h1, p, hp, rfl⟩ hk
    have H1 := hid h1
    have HPK := hid hp
    have hl := congrArg List.length h1.eq
    rw [List.length_map] at hl
    have hlk : es.length = k := by
      rw [hl]; unfold dashL; rw [List.length_map, List.length_take]; omega
    obtain ⟨Av, cv, hv⟩ : ∃ A c, v = .slice A es.length c := by
      rcases h1.rw.2 with ⟨e1, e2⟩ | ⟨g', cap, cur, e1, -⟩
      · exact ⟨none, 0, by rw [e1, e2]⟩
      · exact ⟨_, _, e1⟩
    obtain ⟨x0, xf⟩ := h1.dv.read1
    rw [hv] at x0
    have HV := hid hv
    have HKM := hid hkm
    have HLK := hid hlk
    have HKS := hid hk
    have hn10 : es.length ≤ 10000 := by omega
    clear hv hkm hlk hk
    clear h1 hp hl
    by_cases hfull : es.length = 10000
    · rw [hfull] at x0
      obtain ⟨y0, yf⟩ := H1.out.v1.read1
      obtain ⟨z0, zf⟩ := H1.out.v2.read1
      have hr12 : s0 + 1 ≠ s0 + 1 + 1 := by omega
      gi_wp2
      refine ⟨(KeepsOthers.setCell _ _ _).trans (KeepsOthers.setCell _ _ _), rfl, by have := HKS.out; have := HLK.out; omega,
        (H1.out.be.setCell (p := ⟨s0 + 1, 0, none⟩) HX.out.1.lo.1 _).setCell (p := ⟨s0 + 1 + 1, 0, none⟩) HX.out.1.lo.2.1 _, ?_, ?_⟩
      · have := (H1.out.v1.set (i := 0) (.slice none 0 0)).far (p := ⟨s0 + 1 + 1, 0, none⟩) hr12 (.int .i64 2)
        simpa using this
      · have := (H1.out.v2.far (p := ⟨s0 + 1, 0, none⟩) (Ne.symm hr12) (.slice none 0 0)).set (i := 0) (.int .i64 2)
        simpa using this
    · have hq : ((es.length : Int) == 10000) = false := beq_eq_false_iff_ne.2 (by omega)
      obtain ⟨p1, p2, p3⟩ := spans_in p (by have := List.mem_of_getElem? HPK.out; rw [HSPE.out] at this; exact this)
      have HP1 := hid p1
      have HP2 := hid p2
      have HP3 := hid p3
      have HOKL := hid (show OkL qs from ⟨HQI.out, HQL.out, by omega⟩)
      have HPA := hid (H1.out.pa k p (Nat.le_refl _) HPK.out)
      have HHB := hid (show b ≠ b + 1 by omega)
      gi_wp2
      refine Iv.wpIn_region_inv (m := 48) (RI X (b + 2 + 3) b g (b + 1) qs p.1 p.2 v es [(10, .pointer (some ⟨b, 0, none⟩)), (11, .pointer (some ⟨b + 1, 0, none⟩)), (12, .int .i64 p.1), (13, .int .i64 p.2)]) _ (fun _ => trivial) rfl (by kernel_rfl) (by kernel_rfl) (by kernel_rfl) (Is.start _ rfl) (RI.start fun q hq => ?_) ?_ ?_
      · simp only [List.mem_cons, List.not_mem_nil, or_false] at hq
        rcases hq with rfl | rfl | rfl | rfl
        all_goals rfl
      · refine ⟨⟨fun d' h => (by cases h; decide), fun L f w' hL hdep H => ⟨fun _ => ?_, fun h => (by cases h)⟩⟩, ⟨fun d' h => (by cases h; decide), fun L f w' hL hdep H => ⟨fun _ => ?_, fun h => (by cases h)⟩⟩, ⟨fun d' h => (by cases h; decide), fun L f w' hL hdep H => ⟨fun _ => ?_, fun h => (by cases h)⟩⟩, ⟨fun d' h => (by cases h; decide), fun L f w' hL hdep H => ⟨fun _ => ?_, fun h => (by cases h)⟩⟩, ⟨fun d' h => (by cases h; decide), fun L f w' hL hdep H => ⟨fun _ => ?_, fun h => (by cases h)⟩⟩, ⟨fun d' h => (by cases h; decide), fun L f w' hL hdep H => ⟨fun _ => ?_, fun h => (by cases h)⟩⟩, ⟨fun d' h => (by cases h; decide), fun L f w' hL hdep H => ⟨fun _ => ?_, fun h => (by cases h)⟩⟩, ⟨fun d' h => (by cases h), fun L f w' hL hdep H => ⟨fun _ => ?_, fun h => (by cases h)⟩⟩, trivial⟩
        · have e6 : L 6 = false := by cases e : L 6 with | false => rfl | true => rw [(H.d6 e).2] at hL; cases hL
          rw [run_loadLs (H.x (11, .pointer (some ⟨b + 1, 0, none⟩)) (by simp)) (H.cell H1.out.dv HHB.out e6) ⟨Av, es.length, cv, HV.out⟩]
          exact H.val (i := 0) (d := 40) (.inl rfl) (by omega) rfl (by simp) (fun _ => rfl) (by omega) (by omega) (by omega)
        · exact H.val (i := 1) (d := 41) (u := f 12) (.inr (.inl rfl)) (by omega) rfl (by simp) (by omega) (fun _ => H.x (12, .int .i64 p.1) (by simp)) (by omega) (by omega)
        · exact H.val (i := 2) (d := 42) (u := f 13) (.inr (.inr (.inl rfl))) (by omega) rfl (by simp) (by omega) (by omega) (fun _ => H.x (13, .int .i64 p.2) (by simp)) (by omega)
        · have e1 := H.a1 (hdep ⟨1, .data⟩ (by simp) rfl)
          have e2 := H.a2 (hdep ⟨2, .data⟩ (by simp) rfl)
          have e0 := H.x (10, .pointer (some ⟨b, 0, none⟩)) (by simp)
          rw [run_call3 rfl enters_between]
          show CallsIn _ _ _ _ #[f 10, f 41, f 42] _ _
          rw [e0, e1, e2]
          have hb0 := H.w0 hL
          refine CallsIn.inRound l ((callsIn_wide.2 (between_any b g qs j p.1 p.2 w' (H1.out.wk.next hb0) HPA.out HP1.out HP2.out HP3.out HOKL.out)).mono ?_)
          rintro e w'' ⟨vp, j', rfl, ho, hw, hpp, hg⟩
          exact ⟨vp, rfl, H.call (by simp) hL ⟨ho.mono hb0.size, j', hw, hpp, (Gr.of_below hb0).trans hg⟩⟩
        · have e3 := hdep ⟨3, .data⟩ (by simp) rfl
          have e5 : L 5 = false := by cases e : L 5 with | false => rfl | true => rw [H.d5 e] at hL; cases hL
          obtain ⟨A', c', hs, -⟩ := (H.w3 e3 e5).1.is
          rw [run_bldLn (x := .tmp 43) hs, ← hs]
          exact H.val (i := 4) (d := 44) (.inr (.inr (.inr rfl))) (fun _ => e3) rfl (by simp) (by omega) (by omega) (by omega) (fun _ => rfl)
        · have e4 := hdep ⟨4, .data⟩ (by simp) rfl
          obtain ⟨A', c', hs, -⟩ := (H.w3 (H.d4 e4) hL).1.is
          have e44 := H.a4 e4
          rw [hs] at e44
          rw [run_litLn (x := .tmp 44) e44, ← hs]
          exact H.lit (by simp) hL e4
        · have e0 := hdep ⟨0, .data⟩ (by simp) rfl
          have e5 := hdep ⟨5, .data⟩ (by simp) rfl
          obtain ⟨w1, hbt, rfl, e45⟩ := H.w5 e5 hL
          have hbt2 := hbt
          obtain ⟨ho, j', hw, hpp, hg⟩ := hbt2
          obtain ⟨A', c', hs, hc'⟩ := ho.cap
          have hrw : w1.ownsRow (b + 2 + 3) 27 2 v es.length (lflE es) := own_kept H1.out.rw (Kept.grown (M := fun q => q = b) hg.g fun r hr => ((yb_own _ _).1 hr).symm) (fun q hq => by have := H1.out.own q hq; show ¬ q = b; omega)
          obtain ⟨v', w3', h1', h2', h3'⟩ := append_lr (e := ⟨A', c', dashS (sidesP qs) p.1 p.2, false⟩) (ty := 22) (by have := H1.out.sz; have := hg.size; omega) hrw (by omega)
          rw [hs]
          rw [run_append (t := 22) (H.a0 e0) e45 h1']
          exact H.app (by simp) hL e5 e0 ⟨hbt, A', c', hs, hc', h2', h3'⟩
        · have e6 := hdep ⟨6, .data⟩ (by simp) rfl
          obtain ⟨w1, hbt, A', c', hs, hc', hr, hgr⟩ := H.w6 e6 hL
          obtain ⟨ho, j', hw, hpp, hg⟩ := hbt
          have hD : Var w' (b + 1) #[v] 22 := hgr.var (hg.var H1.out.dv (by show some b ≠ some (b + 1); simp)) (fun e => by have := H1.out.own (b + 1) e; omega)
          obtain ⟨u0, uf⟩ := hD.read1
          obtain ⟨A2, n2, c2, hv2⟩ : ∃ A n c, f 46 = .slice A n c := by
            rcases hr.2 with ⟨e1, e2⟩ | ⟨g', cap, cur, e1, -⟩
            · exact ⟨_, _, _, e1⟩
            · exact ⟨_, _, _, e1⟩
          rw [run_storeLs (H.x (11, .pointer (some ⟨b + 1, 0, none⟩)) (by simp)) hv2 u0 (uf 0), ← hv2]
          exact H.store e6 hL
      · intro L f act w4' hall H ha
        obtain ⟨w1, w3', ⟨⟨ho, j', hw, hpp, hg⟩, A', c', hs, hc', hr, hgr⟩, rfl⟩ := H.w7 (hall 7 (by decide))
        rw [hs] at ho
        obtain ⟨r1, r2, r3, r4, r5⟩ := H1.out.round HX.out.1 hg hw hpp ho hc' hr hgr HPK.out (fun k' q hk' hq' => spans_sorted HOKP.out HNEP.out (b0 := -(phase % perd pat)) (len := lenP qs) (by rw [← HSPE.out]; exact HPK.out) (by rw [← HSPE.out]; exact hq') hk')
        exact ⟨r3, _, ⟨_, _, _, rfl, by have := HLK.out; omega, r1⟩, r4, r5, r2⟩
  case done =>
    rintro D M X2 hD ⟨v, es, j, rfl, hkm, h1⟩ hK
    have H1 := hid h1
    have HKM := hid hkm
    have HKK := hid hK
    obtain ⟨Av, cv, hv⟩ : ∃ A c, v = .slice A es.length c := by
      rcases h1.rw.2 with ⟨e1, e2⟩ | ⟨g', cap, cur, e1, -⟩
      · exact ⟨none, 0, by rw [e1, e2]⟩
      · exact ⟨_, _, e1⟩
    have HV := hid hv
    obtain ⟨x0, xf⟩ := h1.dv.read1
    obtain ⟨y0, yf⟩ := h1.v1.read1
    obtain ⟨z0, zf⟩ := h1.v2.read1
    rw [hv] at x0
    have hr12 : s0 + 1 ≠ s0 + 1 + 1 := by omega
    have hDS : w.heap.size ≤ D := by have := HX.out.2.1.be.size; omega
    have HDS := hid hDS
    clear h1 hkm hK hv hDS
    gi_wp2
    obtain ⟨ec1, ec2⟩ := set12 hr12 H1.out.v1 H1.out.v2 (.slice Av es.length cv) (.int .i64 0)
    have hK2 : ((X2.setCell ⟨s0 + 1, 0, none⟩ (.slice Av es.length cv)).setCell ⟨s0 + 1 + 1, 0, none⟩ (.int .i64 0)).heap[D]? = some (.deferred (some [])) := ((KeepsOthers.setCell _ _ _).trans (KeepsOthers.setCell _ _ _)).same D _ HKK.out rfl
    refine dash_fin (r1 := s0 + 1) (r2 := s0 + 1 + 1) (A := Av) (n := es.length) (c := cv) (z := 0) ec1 ec2 hK2 rfl rfl ⟨.inl ⟨by rw [HSD.out]; exact HKM.out, ?_⟩, ?_⟩
    · have hk1 : Kept (fun q => q = s0 + 1 ∨ q = s0 + 1 + 1) X2 (((X2.setCell ⟨s0 + 1, 0, none⟩ (.slice Av es.length cv)).setCell ⟨s0 + 1 + 1, 0, none⟩ (.int .i64 0)).putObj D (.deferred none)) :=
        ((Kept.set (M := fun q => q = s0 + 1 ∨ q = s0 + 1 + 1) (p := ⟨s0 + 1, 0, none⟩) (.inl rfl) _).trans (Kept.set (M := fun q => q = s0 + 1 ∨ q = s0 + 1 + 1) (p := ⟨s0 + 1 + 1, 0, none⟩) (.inr rfl) _)).trans (Kept.put _ hK2 rfl)
      have hnu := HX.out.1.up
      obtain ⟨A', c', hv', hL⟩ := own_lns (own_kept H1.out.rw hk1 fun q hq => by have := H1.out.own q hq; show ¬ (q = s0 + 1 ∨ q = s0 + 1 + 1); omega) (fun e he => (H1.out.fe e he).1.kept hk1 fun q hq => by have := (H1.out.fe e he).2 q hq; show ¬ (q = s0 + 1 ∨ q = s0 + 1 + 1); omega)
      have e2 := HV.out.symm.trans hv'
      injection e2 with e3 e4 e5
      subst e3; subst e5
      exact ⟨Av, cv, es, rfl, hL, by rw [H1.out.eq, HSD.out, HQS.out]⟩
    · exact ((H1.out.be.setCell (p := ⟨s0 + 1, 0, none⟩) HX.out.1.lo.1 _).setCell (p := ⟨s0 + 1 + 1, 0, none⟩) HX.out.1.lo.2.1 _).trans (belowK_b (w := w) (Nat.le_refl _) _ D _ _ HDS.out hK2 rfl rfl)
  case stop =>
    rintro D cd k X2 hD hk ⟨rfl, h10, hbe, hv1, hv2⟩ hK
    have hDS : w.heap.size ≤ D := by have := HX.out.2.1.be.size; omega
    have H10 := hid h10
    have HBE := hid hbe
    have HV1 := hid hv1
    have HV2 := hid hv2
    have HKK := hid hK
    clear h10 hbe hv1 hv2 hK
    gi_wp2
    refine dash_fin (r1 := s0 + 1) (r2 := s0 + 1 + 1) (A := none) (n := 0) (c := 0) (z := 2) (HV1.out.cell 0) (HV2.out.cell 0) HKK.out rfl rfl ⟨.inr ⟨by rw [HSD.out]; exact H10.out, rfl⟩, ?_⟩
    exact HBE.out.trans (belowK_b (w := w) (Nat.le_refl _) _ D _ _ hDS HKK.out rfl rfl)
end Go.Proofs.Ytjflgblplmgjlaa
