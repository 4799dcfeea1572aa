/- dash.Length; the reference's Length and Walk; SamePoints; law1's dashes (written by r10_rwk.py). -/
import Derived.Test.YtjflgblplmgjlaaKpt
import Derived.Test.YtjflgblplmgjlaaMov
import Derived.Test.YtjflgblplmgjlaaRfl
import Derived.Deep.DeepCutAuto
namespace Go.Proofs.Ytjflgblplmgjlaa
open Go Go.RowKit
set_option linter.unusedVariables false
set_option linter.unusedSimpArgs false

theorem dlen_bad (A : Option Addr) (ps : List P2) (n c : Nat) (cl : Bool) (w : World) (hn : n = ps.length) (hc : n ≤ c ∧ c ≤ maxLen) (hs : Pts w A ps) (h : lchk [⟨ps, cl⟩] ≠ 0) :
    Calls Try.prog 15 #[.agg #[.slice A n c, .bool cl]] w fun e w' => e = .returned (.tuple #[.int .i64 0, .int .i64 (lchk [⟨ps, cl⟩])]) ∧ Below w.heap.size w w' := by
  have HS := hid hs
  have HN := hid hn
  have HCC := hid hc
  have hne : (lchk [⟨ps, cl⟩] != 0) = true := by simpa using h
  obtain ⟨r, hr⟩ : ∃ r, r = lchk [⟨ps, cl⟩] := ⟨_, rfl⟩
  have HR := hid hr
  rw [← hr] at hne ⊢
  have HB0 := hid (below_alloc (Below.refl w.heap.size w) (.cells #[.slice A n c, .bool cl] 27))
  have HSZ := hid (show w.heap.size + 1 = (w.alloc (.cells #[.slice A n c, .bool cl] 27)).heap.size by simp)
  clear hn hs h hc hr
  go_enter Try.func15, Try.ntmps15
  go_wp2_with fail
  rw [HSZ.out]
  (with_reducible refine (fcheck_any _ [⟨ps, cl⟩] 1 1 _ rfl (by decide) (lns_lit HN.out (HS.out.next HB0.out) HCC.out)).mono ?_); rintro e w1 ⟨rfl, hb⟩
  rw [← HR.out]
  have HB1 := hid (below_next HB0.out (below_next (below_alloc (Below.refl _ _) _) hb))
  clear hb
  go_wp2_with fail
  go_ret2
  exact ⟨rfl, HB1.out⟩
theorem dlen_ok (A : Option Addr) (ps : List P2) (n c : Nat) (cl : Bool) (w : World) (hn : n = ps.length) (hnl : n ≤ 2000000) (hc : n ≤ c ∧ c ≤ maxLen) (hs : Pts w A ps) (h : lchk [⟨ps, cl⟩] = 0) :
    Calls Try.prog 15 #[.agg #[.slice A n c, .bool cl]] w fun e w' => e = .returned (.tuple #[.int .i64 (lenP (walkP ps cl)), .int .i64 0]) ∧ Below w.heap.size w w' := by
  have HS := hid hs
  have HN := hid hn
  have HCC := hid hc
  have HNL := hid hnl
  have H0 := hid h
  have HPI := hid (pin_of h)
  have HB0 := hid (below_alloc (Below.refl w.heap.size w) (.cells #[.slice A n c, .bool cl] 27))
  have HV0 := hid (Var.new w #[.slice A n c, .bool cl] 27 _ rfl)
  have HSZ := hid (show w.heap.size + 1 = (w.alloc (.cells #[.slice A n c, .bool cl] 27)).heap.size by simp)
  clear hn hs h hc hnl
  go_enter Try.func15, Try.ntmps15
  go_wp2_with fail
  rw [HSZ.out]
  (with_reducible refine (fcheck_any _ [⟨ps, cl⟩] 1 1 _ rfl (by decide) (lns_lit HN.out (HS.out.next HB0.out) HCC.out)).mono ?_); rintro e w1 ⟨rfl, hb⟩
  rw [H0.out]
  have HB1 := hid (below_next HB0.out (below_next (below_alloc (Below.refl _ _) _) hb))
  have HV1 := hid (HV0.out.next (below_next (below_alloc (Below.refl _ _) _) hb))
  obtain ⟨z0, z1, -⟩ := HV1.out.read2
  clear hb
  go_wp2_with fail
  (with_reducible refine (sides_any A ps n c cl _ HN.out HNL.out (HS.out.next HB1.out) HPI.out).mono ?_); rintro e w2 ⟨v, rfl, ho, hb⟩
  have HB2 := hid (below_next HB1.out hb)
  obtain ⟨A1, c1, rfl, hrd⟩ := ho.is
  have HRD := hid hrd
  have HLE := hid (show (sidesP (walkP ps cl)).length ≤ maxLen by rw [sidesP_len]; have := walkP_len ps cl; have := HN.out; have := HNL.out; unfold maxLen; omega)
  obtain ⟨k, hk⟩ : ∃ k, k = (sidesP (walkP ps cl)).length := ⟨_, rfl⟩
  have HK := hid hk
  rw [← hk] at HLE ⊢
  clear hb ho hrd z0 z1 hk
  go_wp2_with fail
  (with_reducible refine (lenof_any A1 (sidesP (walkP ps cl)) k c1 _ HK.out HLE.out HRD.out).mono ?_); rintro e w3 ⟨rfl, rfl⟩
  rw [sidesP_last]
  go_wp2_with fail
  go_ret2
  exact ⟨rfl, HB2.out⟩

set_option maxHeartbeats 1000000 in
theorem rlen_any (p q : P2) (w : World) (hp : PIn p) (hq : PIn q) : Calls Try.prog 31 #[ptv p, ptv q] w fun e w' => e = .returned (.int .i64 (dst p q)) ∧ Below w.heap.size w w' := by
  have HR := hid (rroot_any (dsq p q) (dst p q) · (dsq_nn p q) (by have := dsq_le hp hq; omega) (dst_root p q))
  have HD := hid (show dsq p q = (q.x - p.x) * (q.x - p.x) + (q.y - p.y) * (q.y - p.y) from rfl)
  obtain ⟨e1, e2, e3, e4⟩ := sq_rng hp hq
  obtain ⟨⟨a1, a2⟩, a3, a4⟩ := hp
  obtain ⟨⟨b1, b2⟩, b3, b4⟩ := hq
  have HB := hid (below_alloc (below_alloc (Below.refl w.heap.size w) (.cells (pcel p) 37)) (.cells (pcel q) 37))
  have hX : ∃ X, X = (q.x - p.x) * (q.x - p.x) := ⟨_, rfl⟩
  have hY : ∃ Y, Y = (q.y - p.y) * (q.y - p.y) := ⟨_, rfl⟩
  obtain ⟨X, hX⟩ := hX
  obtain ⟨Y, hY⟩ := hY
  rw [← hX, ← hY] at HD
  rw [← hX] at e1 e2
  rw [← hY] at e3 e4
  replace hX := hX.symm
  replace hY := hY.symm
  go_enter Try.func31, Try.ntmps31
  go_wp2_with fail
  rw [← HD.out]
  (with_reducible refine (HR.out _).mono ?_); rintro e w1 ⟨rfl, rfl⟩
  go_wp2_with fail
  go_ret
  exact ⟨rfl, HB.out⟩
theorem enters_rlen : Enters Try.prog 31 := enters_of Try.func31 (by kernel_rfl) rfl

section
variable {ρ : Operand → Value} {dst : Option Tmp} {ty : TypeId} {pos : String} {af : Array Edge} {x y : Operand} {w : World} {gd : Option (Nat × Bool)}
theorem run_idxPn {a : Addr} {j n c : Nat} (hx : ρ x = .slice (some a) n c) (hy : ρ y = .int .i64 (j : Int)) (hj : j < n) :
    (execOp ρ { dst := dst, op := .indexAddr 25 x y, type := ty, pos := pos, after := af, guard := gd }).run Try.prog w = .ok (.value (.pointer (some (a.add (j * 2))))) w := by
  have h1 : (j : Int) < (n : Int) := by omega
  go_simp
theorem run_loadP {a : Addr} {p : P2} (hx : ρ x = .pointer (some a)) (hV : PtAt w a p) :
    (execOp ρ { dst := dst, op := .load 37 x, type := ty, pos := pos, after := af, guard := gd }).run Try.prog w = .ok (.value (ptv p)) w := by
  obtain ⟨c0, c1⟩ := hV
  go_simp
end
theorem wpListIn_append_I {F : Fence} {n : Nat} {ops : Array Oper} {rest : List Oper} {o : Oper} {a : Act} {Q : Exit → Act → World → Prop} {w : World} {B : Nat} {v : Value} {xs : List Int} {s : Int} (hgd : o.guard = none) (y x : Operand)
    (ho : o.op = .call { callee := .builtin .append, args := #[y, x], argTypes := #[23, 23] }) (hB : B ≤ w.heap.size) (hs : a.eval y = v) (hx : a.eval x = .slice (some ⟨w.heap.size, 0, none⟩) 1 1)
    (hown : OwnI w B v xs) (hl : xs.length ≤ 5000000000)
    (k : ∀ v' w', OwnI w' B v' (xs ++ [s]) → Gr v v' w w' → wpListIn F n Try.prog ops Q rest (a.put o.dst v') w') : wpListIn F n Try.prog ops Q (o :: rest) a (w.alloc (.cells #[.int .i64 s] 3)) := by
  obtain ⟨v', w', h1, h2, h3⟩ := append_int (ty := o.type) (z := s) hB hown hl
  refine wpListIn_plain hgd fun K hK' => ?_
  unfold Oper.wpIn
  refine ⟨?_, ?_⟩
  · simp [Oper.about, ho, resolve, Target.leads, Sem.run_pure]
  · rw [Oper.semAt_plain F _ _ (by rw [ho]; intro c hc'; cases hc')]
    simp [execOp, ho, resolve, invoke, builtin, hs, hx, h1, Result.andThen]
    exact hK' _ _ (k v' w' h2 h3)
theorem wpList_append_Ps {ops : Array Oper} {rest : List Oper} {o : Oper} {a : Act} {Q : Exit → Act → World → Prop} {w : World} {B m c : Nat} {A : Option Addr} {v : Value} {xs ys : List P2} (hgd : o.guard = none) (y x : Operand)
    (ho : o.op = .call { callee := .builtin .append, args := #[y, x], argTypes := #[25, 25] }) (hB : B ≤ w.heap.size) (hs : a.eval y = v) (hx : a.eval x = .slice A m c)
    (hown : OwnP w B v xs) (hm : m = ys.length) (hr : Pts w A ys) (hl : xs.length + m ≤ 5000000000)
    (k : ∀ v' w', OwnP w' B v' (xs ++ ys) → Gr v v' w w' → wpList Try.prog ops Q rest (a.put o.dst v') w') : wpList Try.prog ops Q (o :: rest) a w := by
  obtain ⟨v', w', h1, h2, h3⟩ := append_pts (c := c) hB hown hm hr hl
  refine wpList_plain hgd fun K hK' => ?_
  simp [Oper.wp, execOp, ho, resolve, invoke, builtin, hs, hx, h1, Result.andThen]
  exact hK' _ _ (k v' w' h2 h3)

/-- The positions of a line's points. -/
def posL (qs : List P2) (k : Nat) : List Int := (List.range k).map (posn qs)
theorem posL_succ (qs : List P2) (k : Nat) : posL qs (k + 1) = posL qs k ++ [posn qs k] := by unfold posL; rw [List.range_succ, List.map_append]; rfl
theorem posL_len (qs : List P2) (k : Nat) : (posL qs k).length = k := by unfold posL; simp
theorem posL_get {qs : List P2} {k j : Nat} (h : j < k) : (posL qs k)[j]? = some (posn qs j) := by unfold posL; simp [h]

set_option maxRecDepth 100000 in
set_option maxHeartbeats 8000000 in
theorem rwalk_any (A : Option Addr) (ps : List P2) (n c : Nat) (cl : Bool) (w : World) (hn : n = ps.length) (hl : n ≤ 2000000) (hs : Pts w A ps) (hp : ∀ p ∈ ps, PIn p) :
    Calls Try.prog 18 #[.agg #[.slice A n c, .bool cl]] w fun e w' => (∃ A1 c1 A2 c2, e = .returned (.tuple #[.slice A1 (walkP ps cl).length c1, .slice A2 (walkP ps cl).length c2]) ∧ Pts w' A1 (walkP ps cl) ∧ IntsA w' A2 (posL (walkP ps cl) (walkP ps cl).length)) ∧ Below w.heap.size w w' := by
  have HN := hid hn
  have HS := hid hs
  have HP := hid hp
  have HB0 := hid (below_alloc (Below.refl w.heap.size w) (.cells #[.slice A n c, .bool cl] 27))
  have HV := hid (Var.new w #[.slice A n c, .bool cl] 27 _ rfl)
  obtain ⟨qs, hqs⟩ : ∃ qs, qs = walkP ps cl := ⟨_, rfl⟩
  have HQS := hid hqs
  rw [← hqs]
  clear hn hs hp hqs
  go_enter Try.func18, Try.ntmps18
  go_upto_region 1 with fail
  generalize w.alloc (.cells #[.slice A n c, .bool cl] 27) = w1 at HB0 HV ⊢
  obtain ⟨x0, x1, -⟩ := (HV.out.alloc (.cells #[] 37)).read2
  have HO0 := hid ((OwnP.lit0 w1).mono HB0.out.size)
  have HBZ := hid (show w.heap.size ≤ (w1.alloc (.cells #[] 37)).heap.size from (below_alloc HB0.out _).size)
  have HS1 := hid (HS.out.next (below_alloc HB0.out (.cells #[] 37)))
  have HLN := hid (show ([] : List P2).length + n ≤ 5000000000 by simp; omega)
  go_wp2_with (at_builtin; refine wpList_append_Ps (B := w.heap.size) (A := A) (m := n) (c := c) (ys := ps) rfl _ _ rfl HBZ.out rfl rfl HO0.out HN.out HS1.out HLN.out ?_)
  intro v w2 ho hg
  have HO1 := hid (show OwnP w2 w.heap.size v ps by simpa using ho)
  have hov : ∀ k, (Value.slice (some ⟨w1.heap.size, 0, none⟩) 0 0).ownBlock = some k → w.heap.size ≤ k := fun k hk => (HO0.out.ge k hk).1
  have HB1 := hid ((below_alloc HB0.out (.cells #[] 37)).trans (hg.below HBZ.out hov))
  have HV1 := hid (hg.var (HV.out.alloc (.cells #[] 37)) (by
    have hlt := HV.out.lt
    show some w1.heap.size ≠ some w.heap.size
    simp; omega))
  clear x0 x1 ho hg hov HO0 HBZ HS1 HLN
  obtain ⟨A1, c1, rfl, hp1⟩ := HO1.out.is
  have HP1 := hid hp1
  obtain ⟨x0, x1, -⟩ := HV1.out.read2
  rw [← HN.out] at HO1 ⊢
  clear hp1
  obtain ⟨G, hG⟩ : ∃ G : Bool, G = (cl && decide (2 ≤ n)) := ⟨_, rfl⟩
  have HG := hid hG
  clear hG
  go_upto_region 2 with fail
  go_cut [17] (fun s17 wx => s17 = .bool G ∧ wx = w2)
  case first =>
    cases cl with
    | false =>
      go_wp2_with fail
      go_meet
      exact ⟨by rw [HG.out]; rfl, rfl⟩
    | true =>
      by_cases h2 : 2 ≤ n
      · have h2' : (1 : Int) < (n : Int) := by omega
        go_wp2_with fail
        go_meet
        exact ⟨by rw [HG.out, decide_eq_true h2]; rfl, rfl⟩
      · have h2' : ¬ (1 : Int) < (n : Int) := by omega
        go_wp2_with fail
        go_meet
        exact ⟨by rw [HG.out, decide_eq_false h2]; rfl, rfl⟩
  case rest =>
  obtain ⟨rfl, hw1⟩ := hcut
  subst hw1
  clear x0 x1
  go_upto_if 17 with fail
  go_cut [4] (fun s4 wx => ∃ (v' : Value), v' = s4 ∧ Hid (OwnP wx w.heap.size v' qs) ∧ Hid (Below w.heap.size w wx))
  case first =>
    cases G with
    | false =>
      have HQ := hid (HQS.out.trans <| walkP_f (ps := ps) (cl := cl) (by
        rintro ⟨h1, h2⟩
        have := HG.out
        rw [h1, decide_eq_true (by rw [HN.out]; exact h2)] at this
        cases this))
      go_wp2_with fail
      go_meet
      exact ⟨_, rfl, hid (by rw [HQ.out]; exact HO1.out), HB1⟩
    | true =>
      obtain ⟨hc1, hc2⟩ := Bool.and_eq_true_iff.1 HG.out.symm
      have h2 : 2 ≤ n := of_decide_eq_true hc2
      have hp0 : 0 < ps.length := by rw [← HN.out]; omega
      have HQ := hid (HQS.out.trans <| walkP_t (ps := ps) hc1 (by rw [← HN.out]; exact h2))
      clear hc1 hc2
      obtain ⟨a, rfl, hal, hsa⟩ := HP1.out.at_ hp0
      have HE := hid (show ps.getD 0 default = ps[0] by rw [List.getD_eq_getElem?_getD, List.getElem?_eq_getElem hp0]; rfl)
      rw [HE.out] at HQ
      generalize ps[0] = q at hsa HQ
      rw [show a.add (0 * 2) = a by unfold Addr.add; rfl] at hsa
      obtain ⟨y0, y1⟩ := hsa
      have HBZ := hid (show w.heap.size ≤ wc.heap.size from HB1.out.size)
      have HLN := hid (show ps.length ≤ 5000000000 by rw [← HN.out]; omega)
      go_wp2_with (at_builtin; refine wpList_append_Pt (B := w.heap.size) (s := q) rfl _ _ rfl HBZ.out rfl rfl HO1.out HLN.out ?_)
      intro v' w' ho hg
      have HO2 := hid ho
      have HB2 := hid (hg.below HBZ.out fun k hk => (HO1.out.ge k hk).1)
      clear ho hg
      go_wp2_with fail
      go_meet
      exact ⟨_, rfl, hid (by rw [HQ.out]; exact HO2.out), hid (HB1.out.trans HB2.out)⟩
  case rest =>
    clear HO1 HP1 HB1 HV1
    obtain ⟨v, rfl, HO, HB⟩ := hcut
    have hql : qs.length ≤ 2000001 := by have := walkP_len ps cl; have := HN.out; rw [HQS.out]; omega
    have HQI := hid (show ∀ p ∈ qs, PIn p by rw [HQS.out]; exact walkP_in HP.out)
    clear HG
    obtain ⟨A2, c2, rfl, hp2⟩ := HO.out.is
    have HP2 := hid hp2
    obtain ⟨m, hm⟩ : ∃ m, m = qs.length := ⟨_, rfl⟩
    rw [← hm] at HO hql ⊢
    have HM := hid hm
    clear hp2 hm
    obtain ⟨S, hS⟩ : ∃ S, S = wc.heap.size := ⟨_, rfl⟩
    have HLT := hid (show ∀ q, (Value.slice A2 m c2).ownBlock = some q → q < S from fun q hq => hS ▸ (HO.out.ge q hq).2)
    have HS0 := hid (Nat.le_of_eq hS)
    clear hS
    go_wp2_with fail
    go_loopw [5, 26] (fun s5 s26 wr => ∃ (i : Nat) (u : Value), u = s5 ∧ s26 = .int .i64 (i : Int) ∧ i ≤ m ∧ Hid (OwnI wr w.heap.size u (posL qs i) ∧ Pts wr A2 qs ∧ apart u (.slice A2 m c2) ∧ Below w.heap.size w wr ∧ S ≤ wr.heap.size)) (fun _ s26 _ => m - (intOf s26).toNat)
    case atStart => exact ⟨0, _, rfl, rfl, Nat.zero_le _, hid ⟨OwnI.nil _ _, HP2.out, apart.nil _, HB.out, HS0.out⟩⟩
    case round =>
      clear HO HB
      obtain ⟨i, u, rfl, rfl, hi, HR⟩ := hrel
      have HBW := hid (show w.heap.size ≤ wr.heap.size from HR.out.2.2.2.1.size)
      have HLN := hid (show (posL qs i).length ≤ 5000000000 by rw [posL_len]; omega)
      by_cases hlt : i < m
      · have hlt' : (i : Int) < (m : Int) := by omega
        by_cases h0 : i = 0
        · subst h0
          have h0' : ((0 : Nat) : Int) = 0 := rfl
          rw [h0'] at hlt' ⊢
          go_wp2_with (at_builtin; refine wpList_append_I (B := w.heap.size) (s := 0) rfl _ _ rfl HBW.out rfl rfl HR.out.1 HLN.out ?_)
          intro v' w' ho hg
          have HR' := hid (show OwnI w' w.heap.size v' (posL qs (0 + 1)) ∧ Pts w' A2 qs ∧ apart v' (.slice A2 m c2) ∧ Below w.heap.size w w' ∧ S ≤ w'.heap.size from
            ⟨by rw [posL_succ]; exact ho, pts_gr (n := m) (c := c2) HR.out.2.1 hg HR.out.2.2.1, HR.out.2.2.1.gr hg (fun q hq => Nat.lt_of_lt_of_le (HLT.out q hq) HR.out.2.2.2.2), HR.out.2.2.2.1.trans (hg.below HBW.out fun k hk => (HR.out.1.ge k hk).1), Nat.le_trans HR.out.2.2.2.2 hg.size⟩)
          clear ho hg
          go_wp2_with fail
          go_roundw
          case rel => exact ⟨0 + 1, v', rfl, by go_num, by omega, HR'⟩
          case measure => simp [intOf]; omega
        · obtain ⟨j, rfl⟩ : ∃ j, i = j + 1 := ⟨i - 1, by omega⟩
          have hne : (((j + 1 : Nat) : Int) == 0) = false := beq_eq_false_iff_ne.2 (by omega)
          obtain ⟨Ai, ci, hu, hci1, hci2, hia⟩ := HR.out.1.is
          rw [posL_len] at hu
          subst hu
          obtain ⟨bi, hbi, hbl, hbc⟩ := hia.at_ (show j < (posL qs (j + 1)).length by rw [posL_len]; omega)
          have hbv : (posL qs (j + 1))[j]'(by rw [posL_len]; omega) = posn qs j := by
            have := posL_get (qs := qs) (show j < j + 1 by omega)
            rw [List.getElem?_eq_getElem (by rw [posL_len]; omega)] at this
            exact Option.some.inj this
          rw [hbv] at hbc
          have HIC := hid hbc
          have HIL := hid hbl
          have hEI := hbi.symm
          obtain ⟨a, rfl, hal, hsa⟩ := HR.out.2.1.at_ (show j < qs.length by rw [← HM.out]; omega)
          obtain ⟨a', ea, -, hsb⟩ := HR.out.2.1.at_ (show j + 1 < qs.length by rw [← HM.out]; omega)
          cases ea
          have HSD := hid (show posn qs (j + 1) = posn qs j + dst (qs[j]'(by rw [← HM.out]; omega)) (qs[j + 1]'(by rw [← HM.out]; omega)) by
            rw [show posn qs (j + 1) = posn qs j + dst (qs.getD j default) (qs.getD (j + 1) default) from rfl]
            have e0 : qs.getD j default = qs[j]'(by rw [← HM.out]; omega) := by rw [List.getD_eq_getElem?_getD, List.getElem?_eq_getElem (by rw [← HM.out]; omega)]; rfl
            have e1 : qs.getD (j + 1) default = qs[j + 1]'(by rw [← HM.out]; omega) := by rw [List.getD_eq_getElem?_getD, List.getElem?_eq_getElem (by rw [← HM.out]; omega)]; rfl
            rw [e0, e1])
          have HI0 := hid (HQI.out _ (List.getElem_mem (show j < qs.length by rw [← HM.out]; omega)))
          have HI1 := hid (HQI.out _ (List.getElem_mem (show j + 1 < qs.length by rw [← HM.out]; omega)))
          generalize qs[j]'(_) = p at hsa HSD HI0
          generalize qs[j + 1]'(_) = q at hsb HSD HI1
          have HPA := hid hsa
          have HPB := hid hsb
          have HAL := hid hal
          have HBD := hid (show 0 ≤ posn qs j ∧ posn qs j ≤ 92680 * (j : Int) ∧ 0 ≤ dst p q ∧ dst p q ≤ 92680 from ⟨posn_nn qs j, posn_le HQI.out j, dst_nn p q, dst_le HI0.out HI1.out⟩)
          clear hsa hsb hal hia hbl hbc hbv
          subst hbi
          clear hEI
          go_upto_region 10 with fail
          refine wpIn_wide.1 (grow_tailM (F := Fence.wide) (n := 0) 17 _ (.slice (some bi) (j + 1) ci) rfl (by kernel_rfl) (by kernel_rfl) (by kernel_rfl) rfl ⟨.inl ⟨rfl, fun w' => rfl⟩, fun w' => rfl⟩ (fun a w h => h) ?_)
          simp only [List.getElem_toArray, List.getElem_cons_zero, List.take_succ_cons, List.take_zero, List.drop_succ_cons, List.drop_zero, Act.put, List.setIfInBounds_toArray, List.set_cons_succ, List.set_cons_zero]
          refine gq_val (v := .slice (some bi) (j + 1) ci) (fun _ => trivial) rfl (fun w' hw' => rfl) ?_
          simp only [Act.put, List.setIfInBounds_toArray, List.set_cons_succ, List.set_cons_zero]
          refine gq_val (v := .int .i64 ((j + 1 : Nat) : Int)) (fun _ => trivial) rfl (fun w' hw' => rfl) ?_
          simp only [Act.put, List.setIfInBounds_toArray, List.set_cons_succ, List.set_cons_zero]
          refine gq_val (v := .int .i64 (j : Int)) (fun _ => trivial) rfl (fun w' hw' => (run_sub (i := ((j + 1 : Nat) : Int)) (j := 1) rfl rfl (by unfold Rg; omega)).trans (int_is (by omega))) ?_
          simp only [Act.put, List.setIfInBounds_toArray, List.set_cons_succ, List.set_cons_zero]
          refine gq_val (v := .pointer (some (bi.add j))) (fun _ => trivial) rfl (fun w' hw' => (run_idxI (a := bi) (j := (j : Int)) rfl rfl (by omega) (by omega)).trans (by rw [Int.toNat_natCast])) ?_
          simp only [Act.put, List.setIfInBounds_toArray, List.set_cons_succ, List.set_cons_zero]
          refine gq_val (v := .int .i64 (posn qs j)) (fun _ => trivial) rfl (fun w' hw' => run_loadInt rfl ((hw'.cell (by rw [add_block]; exact HIL.out)).trans HIC.out)) ?_
          simp only [Act.put, List.setIfInBounds_toArray, List.set_cons_succ, List.set_cons_zero]
          refine gq_val (v := .slice (some a) m c2) (fun _ => trivial) rfl (fun w' hw' => rfl) ?_
          simp only [Act.put, List.setIfInBounds_toArray, List.set_cons_succ, List.set_cons_zero]
          refine gq_val (v := .int .i64 ((j + 1 : Nat) : Int)) (fun _ => trivial) rfl (fun w' hw' => rfl) ?_
          simp only [Act.put, List.setIfInBounds_toArray, List.set_cons_succ, List.set_cons_zero]
          refine gq_val (v := .int .i64 (j : Int)) (fun _ => trivial) rfl (fun w' hw' => (run_sub (i := ((j + 1 : Nat) : Int)) (j := 1) rfl rfl (by unfold Rg; omega)).trans (int_is (by omega))) ?_
          simp only [Act.put, List.setIfInBounds_toArray, List.set_cons_succ, List.set_cons_zero]
          refine gq_val (v := .pointer (some (a.add (j * 2)))) (fun _ => trivial) rfl (fun w' hw' => run_idxPn (j := j) rfl rfl (by omega)) ?_
          simp only [Act.put, List.setIfInBounds_toArray, List.set_cons_succ, List.set_cons_zero]
          refine gq_val (v := ptv p) (fun _ => trivial) rfl (fun w' hw' => run_loadP rfl (HPA.out.below hw' (by rw [add_block]; exact HAL.out))) ?_
          simp only [Act.put, List.setIfInBounds_toArray, List.set_cons_succ, List.set_cons_zero]
          refine gq_val (v := .slice (some a) m c2) (fun _ => trivial) rfl (fun w' hw' => rfl) ?_
          simp only [Act.put, List.setIfInBounds_toArray, List.set_cons_succ, List.set_cons_zero]
          refine gq_val (v := .int .i64 ((j + 1 : Nat) : Int)) (fun _ => trivial) rfl (fun w' hw' => rfl) ?_
          simp only [Act.put, List.setIfInBounds_toArray, List.set_cons_succ, List.set_cons_zero]
          refine gq_val (v := .pointer (some (a.add ((j + 1) * 2)))) (fun _ => trivial) rfl (fun w' hw' => run_idxPn (j := j + 1) rfl rfl (by omega)) ?_
          simp only [Act.put, List.setIfInBounds_toArray, List.set_cons_succ, List.set_cons_zero]
          refine gq_val (v := ptv q) (fun _ => trivial) rfl (fun w' hw' => run_loadP rfl (HPB.out.below hw' (by rw [add_block]; exact HAL.out))) ?_
          simp only [Act.put, List.setIfInBounds_toArray, List.set_cons_succ, List.set_cons_zero]
          refine gq_call (v := .int .i64 (dst p q)) (f := 31) (args := #[ptv p, ptv q]) (fun _ => trivial) rfl rfl (fun _ => run_call2 rfl enters_rlen) (fun w' hw' => (callsIn_wide.2 (rlen_any p q w' HI0.out HI1.out)).mono fun e w'' he => ⟨he.1, below_next hw' he.2⟩) ?_
          simp only [Act.put, List.setIfInBounds_toArray, List.set_cons_succ, List.set_cons_zero]
          refine gq_val (v := .int .i64 (posn qs j + dst p q)) (fun _ => trivial) rfl (fun w' hw' => run_add rfl rfl (by unfold Rg; have := HBD.out; omega)) ?_
          simp only [Act.put, List.setIfInBounds_toArray, List.set_cons_succ, List.set_cons_zero]
          refine wpQuietIn_nil ?_
          rintro X4 hb4
          have HRX := hid (show OwnI X4 w.heap.size (.slice (some bi) (j + 1) ci) (posL qs (j + 1)) ∧ Pts X4 (some a) qs ∧ apart (.slice (some bi) (j + 1) ci) (.slice (some a) m c2) ∧ Below w.heap.size w X4 ∧ S ≤ X4.heap.size from
            ⟨HR.out.1.next hb4, HR.out.2.1.next hb4, HR.out.2.2.1, below_next HR.out.2.2.2.1 hb4, Nat.le_trans HR.out.2.2.2.2 hb4.size⟩)
          have HBX := hid (show w.heap.size ≤ X4.heap.size from HRX.out.2.2.2.1.size)
          obtain ⟨Z, hZ⟩ : ∃ Z, Z = posn qs j + dst p q := ⟨_, rfl⟩
          have HZ := hid (HSD.out.trans hZ.symm)
          rw [← hZ]
          clear hb4 HR hZ HBD
          gi_wp2_with (gi_at_builtin; refine wpListIn_append_I (B := w.heap.size) (s := Z) rfl _ _ rfl HBX.out rfl rfl HRX.out.1 HLN.out ?_)
          intro v' w' ho hg
          have HR' := hid (show OwnI w' w.heap.size v' (posL qs (j + 1 + 1)) ∧ Pts w' (some a) qs ∧ apart v' (.slice (some a) m c2) ∧ Below w.heap.size w w' ∧ S ≤ w'.heap.size from
            ⟨by rw [posL_succ, HZ.out]; exact ho, pts_gr (n := m) (c := c2) HRX.out.2.1 hg HRX.out.2.2.1, HRX.out.2.2.1.gr hg (fun q hq => Nat.lt_of_lt_of_le (HLT.out q hq) HRX.out.2.2.2.2), HRX.out.2.2.2.1.trans (hg.below HBX.out fun k hk => (HRX.out.1.ge k hk).1), Nat.le_trans HRX.out.2.2.2.2 hg.size⟩)
          clear ho hg HRX HBX
          gi_wp2
          dsimp only [nOnly]
          go_wp2_with fail
          go_roundw
          case rel => exact ⟨j + 1 + 1, v', rfl, by go_num, by omega, HR'⟩
          case measure => simp [intOf]; omega
      · obtain rfl : i = m := by omega
        obtain ⟨Ai, ci, hu, hci1, hci2, hia⟩ := HR.out.1.is
        rw [posL_len] at hu
        subst hu
        have HIA := hid hia
        clear hia
        go_wp2_with fail
        go_ret2
        exact ⟨⟨A2, c2, Ai, ci, by rw [← HM.out]; rfl, HR.out.2.1, by rw [← HM.out]; exact HIA.out⟩, HR.out.2.2.2.1⟩
end Go.Proofs.Ytjflgblplmgjlaa
