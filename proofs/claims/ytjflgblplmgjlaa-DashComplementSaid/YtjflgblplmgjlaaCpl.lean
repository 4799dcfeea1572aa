/- The law DashComplement. -/
import Derived.Test.YtjflgblplmgjlaaCpp
import Derived.Test.YtjflgblplmgjlaaRwk
import Derived.BigQuiet
namespace Go.Proofs.Ytjflgblplmgjlaa
open Go Go.RowKit
set_option linter.unusedVariables false
set_option linter.unusedSimpArgs false

/-- Piece k of a line. -/
def pcL (qs : List P2) (T : Nat → Int) (k : Nat) : Ln := ⟨dashS (sidesP qs) (T k) (T (k + 1)), false⟩
def PcR (X : World) (A : Option Addr) (m : Nat) (qs : List P2) (T : Nat → Int) (r : Nat) : Prop := ∃ es : List LE, m = es.length ∧ LnsE X A es ∧ ∀ j (h : j < es.length), es[j].ln = pcL qs T (2 * j + r)
theorem PcR.next {X Y : World} {A : Option Addr} {m r : Nat} {qs : List P2} {T : Nat → Int} (h : PcR X A m qs T r) (hb : Below X.heap.size X Y) : PcR Y A m qs T r := by
  obtain ⟨es, h1, h2, h3⟩ := h
  exact ⟨es, h1, h2.next hb, h3⟩
theorem PcR.of {X : World} {A : Option Addr} {m M r : Nat} {qs : List P2} {T : Nat → Int} {es : List LE} {sp : List (Int × Int)} (hm : m = es.length) (h : LnsE X A es) (he : es.map LE.ln = dashL qs sp sp.length) (hs : sp = (List.range M).map fun j => (T (2 * j + r), T (2 * j + r + 1))) : m = M ∧ PcR X A m qs T r := by
  unfold dashL at he
  rw [List.take_length, hs, List.map_map] at he
  have hl : es.length = M := by have := congrArg List.length he; simpa using this
  refine ⟨hm.trans hl, es, hm, h, fun j hj => ?_⟩
  have := congrArg (fun l => l[j]?) he
  simp [hj, hl ▸ hj] at this
  rw [this]
  rfl
theorem PcR.at_ {X : World} {A : Option Addr} {m j r : Nat} {qs : List P2} {T : Nat → Int} (h : PcR X A m qs T r) (hj : j < m) : ∃ a b N c, A = some a ∧ a.block < X.heap.size ∧ b.block < X.heap.size ∧ X.cell? (a.add (j * 2)) = some (.slice (some b) N c) ∧ X.cell? ⟨(a.add (j * 2)).block, (a.add (j * 2)).off + 1, none⟩ = some (.bool false) ∧ 2 ≤ N ∧ N ≤ maxLen ∧
    PtAt X b (posS (sidesP qs) (T (2 * j + r))) ∧ PtAt X (b.add ((N - 1) * 2)) (posS (sidesP qs) (T (2 * j + r + 1))) := by
  obtain ⟨es, h1, h2, h3⟩ := h
  have hl : j < es.length := by omega
  obtain ⟨a, rfl, hal, hc0, hc1, hp, hle⟩ := h2.at_ hl
  have he := h3 j hl
  generalize es[j] = e at hc0 hc1 hp hle he
  obtain ⟨Ae, ce, pse, cle⟩ := e
  have e1 : pse = dashS (sidesP qs) (T (2 * j + r)) (T (2 * j + r + 1)) := congrArg Ln.ps he
  obtain rfl : cle = false := congrArg Ln.cl he
  simp only at hc0 hc1 hp hle
  have hN : 2 ≤ pse.length := by rw [e1]; unfold dashS; simp
  obtain ⟨b, rfl, hbl, hp0⟩ := hp.at_ (show 0 < pse.length by omega)
  obtain ⟨b', hb', -, hpN⟩ := hp.at_ (show pse.length - 1 < pse.length by omega)
  obtain rfl := Option.some.inj hb'
  refine ⟨a, b, pse.length, ce, rfl, hal, hbl, hc0, hc1, hN, by omega, ?_, ?_⟩
  · have e0 : b.add (0 * 2) = b := by unfold Addr.add; rfl
    rw [e0] at hp0
    have : pse[0] = posS (sidesP qs) (T (2 * j + r)) := by simp only [e1]; rfl
    rwa [this] at hp0
  · have : pse[pse.length - 1] = posS (sidesP qs) (T (2 * j + r + 1)) := by
      simp only [e1]
      unfold dashS
      simp
    rwa [this] at hpN

theorem okLn.le8 {ps : List P2} (h : okLn ps) : ps.length ≤ 8 := h.2
/-- Where a walk ends. -/
theorem end_pt {ps : List P2} {cl : Bool} (hl : 0 < lenP (walkP ps cl)) : posS (sidesP (walkP ps cl)) (lenP (walkP ps cl)) = if cl = true then ps.getD 0 default else ps.getD (ps.length - 1) default := by
  rw [posS_end hl]
  unfold walkP at hl ⊢
  by_cases h : cl = true ∧ 2 ≤ ps.length
  · rw [if_pos h, if_pos h.1]
    simp
  · rw [if_neg h] at hl ⊢
    by_cases hc : cl = true
    · have h1 : ps.length - 1 = 0 := by
        rcases Nat.lt_or_ge ps.length 2 with k | k
        · omega
        · exact absurd ⟨hc, k⟩ h
      rw [if_pos hc, h1]
    · rw [if_neg hc]
theorem start_pt {ps : List P2} {cl : Bool} (hl : 0 < lenP (walkP ps cl)) : 0 < ps.length ∧ posS (sidesP (walkP ps cl)) 0 = ps.getD 0 default := by
  have hn : 0 < ps.length := by
    rcases Nat.eq_zero_or_pos ps.length with h | h
    · have : ps = [] := List.length_eq_zero_iff.1 h
      subst this
      unfold walkP lenP at hl
      simp [posn] at hl
    · exact h
  refine ⟨hn, ?_⟩
  rw [posS_zero hl]
  unfold walkP
  split
  · rw [List.getD_eq_getElem?_getD, List.getElem?_append_left hn, ← List.getD_eq_getElem?_getD]
  · rfl

set_option maxRecDepth 100000 in
set_option maxHeartbeats 8000000 in
theorem compl_law (A : Option Addr) (n c : Nat) (ss : List Ln) (g phase : Int) (w : World) (hn : n = ss.length) (hs : Lns w A ss) (hl : n ≤ maxLen) :
    Calls Try.prog 4 #[.slice A n c, .int .i64 g, .int .i64 phase] w fun e w' => e = .returned (.bool true) ∧ Below w.heap.size w w' := by
  obtain ⟨es, rfl, hE⟩ := hs.ext
  have HE := hid hE
  have HN := hid (show n = es.length by simpa using hn)
  have HL := hid hl
  clear hs hE hn hl
  go_enter Try.func4, Try.ntmps4
  go_wp2_with fail
  (with_reducible refine (kdashes_any _).mono ?_); rintro e w1 ⟨rfl, hb⟩
  have HB1 := hid hb
  clear hb
  obtain ⟨b0, hb0⟩ : ∃ b, b = w1.heap.size := ⟨_, rfl⟩
  obtain ⟨b7, hb7⟩ : ∃ b, b = b0 + 1 := ⟨_, rfl⟩
  have HP1 := hid ((Var.new w1 #[.int .i64 0, .int .i64 0, .int .i64 10, .int .i64 0] 37 b0 hb0).alloc (.cells #[.slice (some ⟨b0, 0, none⟩) 2 2, .bool false] 27))
  have HV1 := hid (Var.new (w1.alloc (.cells #[.int .i64 0, .int .i64 0, .int .i64 10, .int .i64 0] 37)) #[.slice (some ⟨b0, 0, none⟩) 2 2, .bool false] 27 b7 (by simp [hb7, hb0]))
  have HBV := hid (below_alloc (below_alloc HB1.out (.cells #[.int .i64 0, .int .i64 0, .int .i64 10, .int .i64 0] 37)) (.cells #[.slice (some ⟨b0, 0, none⟩) 2 2, .bool false] 27))
  have HB7 := hid (show w.heap.size ≤ b7 by have := HB1.out.size; omega)
  go_wp2_with fail
  rw [← hb0, ← hb7]
  generalize (w1.alloc (.cells #[.int .i64 0, .int .i64 0, .int .i64 10, .int .i64 0] 37)).alloc (.cells #[.slice (some ⟨b0, 0, none⟩) 2 2, .bool false] 27) = w3 at HP1 HV1 HBV ⊢
  clear hb0 hb7 HB1
  (with_reducible refine (kfew_any A es n c 500 _ HN.out HL.out (HE.out.next HBV.out) (by omega)).mono ?_); rintro e w4 ⟨⟨A4, c4, es4, rfl, hL4, he4⟩, hb⟩
  have HB4 := hid (below_next HBV.out hb)
  have HV4 := hid (HV1.out.next hb)
  have HP4 := hid (HP1.out.next hb)
  have HL4 := hid hL4
  have HOK4 := hid (kfew_ok he4)
  clear hb hL4 he4 HBV HV1 HP1
  obtain ⟨n4, hn4⟩ : ∃ n4, n4 = es4.length := ⟨_, rfl⟩
  have HN4 := hid hn4
  rw [← hn4]
  clear hn4
  go_upto_region 5 with fail
  go_cut [37] (fun s37 wx => wx = w4 ∧ ∃ d : Bool, s37 = .bool d ∧ Hid (d = true → 0 < n4))
  case first =>
    by_cases h4 : 0 < n4
    · have h4' : (0 : Int) < (n4 : Int) := by omega
      have hil : 0 < es4.length := by rw [← HN4.out]; exact h4
      obtain ⟨a, rfl, hal, hsa⟩ := HL4.out.at_ hil
      generalize es4[0] = e4 at hsa
      rw [show a.add (0 * 2) = a by unfold Addr.add; rfl] at hsa
      obtain ⟨c0, c1, hp, hle⟩ := hsa
      clear hp hle
      generalize e4.ps.length = ne at c0
      by_cases h5 : 0 < ne
      · have h5' : (0 : Int) < (ne : Int) := by omega
        go_wp2_with fail
        go_meet
        exact ⟨rfl, _, rfl, hid fun _ => h4⟩
      · have h5' : ¬ (0 : Int) < (ne : Int) := by omega
        go_wp2_with fail
        go_meet
        exact ⟨rfl, _, rfl, hid fun _ => h4⟩
    · have h4' : ¬ (0 : Int) < (n4 : Int) := by omega
      go_wp2_with fail
      go_meet
      exact ⟨rfl, _, rfl, hid fun h => by cases h⟩
  case rest =>
  obtain ⟨rfl, d, rfl, HD4⟩ := hcut
  go_upto_if 37 with fail
  go_cut [7] (fun s7 wx => s7 = .pointer (some ⟨b7, 0, none⟩) ∧ ∃ (ps : List P2) (cl : Bool), Hid (KLine wx b7 ps cl ∧ okLn ps ∧ Below w.heap.size w wx ∧ b7 < wx.heap.size))
  case first =>
    cases d with
    | true =>
      have h4 := HD4.out rfl
      have h4' : (0 : Int) < (n4 : Int) := by omega
      have hil : 0 < es4.length := by rw [← HN4.out]; exact h4
      obtain ⟨a, rfl, hal, hsa⟩ := HL4.out.at_ hil
      have HOK := hid (HOK4.out _ (List.getElem_mem hil))
      generalize es4[0] = e4 at hsa HOK
      rw [show a.add (0 * 2) = a by unfold Addr.add; rfl] at hsa
      obtain ⟨c0, c1, hp, hle⟩ := hsa
      obtain ⟨v0, v1, vf⟩ := HV4.out.read2
      have HPP := hid hp
      have HLE := hid hle
      have HBS := hid (show b7 < _ from HV4.out.lt)
      clear hp hle
      go_wp2_with fail
      go_meet
      refine ⟨rfl, e4.ps, e4.cl, hid ⟨⟨e4.A, e4.c, ?_, ?_, HLE.out⟩, HOK.out, ?_, ?_⟩⟩
      · have := (HV4.out.set (i := 0) (.slice e4.A e4.ps.length e4.c)).set (i := 1) (.bool e4.cl)
        simpa using this
      · exact (HPP.out.store (HPP.out.setLn (u := undef) (i := 0) HV4.out)).store (HPP.out.setLn (u := undef) (i := 0) HV4.out)
      · exact (HB4.out.setCell (p := ⟨b7, 0, none⟩) HB7.out _).setCell (p := ⟨b7, 1, none⟩) HB7.out _
      · rw [World.size_setCell, World.size_setCell]; exact HBS.out
    | false =>
      go_wp2_with fail
      go_meet
      exact ⟨rfl, [⟨0, 0⟩, ⟨10, 0⟩], false, hid ⟨⟨some ⟨b0, 0, none⟩, 2, HV4.out, pts2 (p := ⟨0, 0⟩) (q := ⟨10, 0⟩) HP4.out, by decide, by decide⟩, ⟨fun p hp => (by simp at hp; rcases hp with rfl | rfl <;> (unfold P500; decide)), by decide⟩, HB4.out, HV4.out.lt⟩⟩
  case rest =>
    clear HV4 HL4 HOK4 HB4 HP4
    obtain ⟨rfl, ps, cl, HR⟩ := hcut
    go_wp2_with fail
    (with_reducible refine (kcut_in g 3 300 _ (by omega) (by omega) (by omega) (by omega)).mono ?_); rintro e w5 ⟨m, hm1, hm2, rfl, hw5⟩
    subst hw5
    go_wp2_with fail
    (with_reducible refine (kcut_in phase 0 (2 * m - 1) _ (by omega) (by omega) (by omega) (by omega)).mono ?_); rintro e w5 ⟨f, hf1, hf2, rfl, hw5⟩
    subst hw5
    obtain ⟨A7, c7, hv7, hp7, hle7⟩ := HR.out.1
    have HV7 := hid hv7
    have HP7 := hid hp7
    have HL7 := hid hle7
    have HOK := hid HR.out.2.1
    have HB7' := hid HR.out.2.2.1
    obtain ⟨n7, hn7⟩ : ∃ n7, n7 = ps.length := ⟨_, rfl⟩
    have HN7 := hid hn7
    rw [← hn7] at HV7 HL7
    obtain ⟨v0, v1, -⟩ := HV7.out.read2
    clear hv7 hp7 hle7 hn7
    go_wp2_with fail
    have HI1 := hid (Var.new wc #[.int .i64 m, .int .i64 m] 3 _ rfl)
    have HG1 := hid (below_alloc (Below.refl wc.heap.size wc) (.cells #[.int .i64 m, .int .i64 m] 3))
    have HOM := hid (okK_nn ⟨hm1, hm2⟩)
    (with_reducible refine (kdash_any A7 _ ps [m, m] n7 c7 2 2 cl f _ HN7.out HL7.out (HP7.out.next HG1.out) HOK.out rfl (ints2 HI1.out) HOM.out (by omega) hf1 (by omega)).mono ?_); rintro e w6 ⟨A8, c8, es8, rfl, hL8, he8, hb⟩
    have HG2 := hid (below_next HG1.out hb)
    have HL8 := hid hL8
    have HE8 := hid he8
    have HV8 := hid (HV7.out.next HG2.out)
    have HI8 := hid (Var.new w6 #[.int .i64 m, .int .i64 m] 3 _ rfl)
    have HG8 := hid (below_alloc (Below.refl w6.heap.size w6) (.cells #[.int .i64 m, .int .i64 m] 3))
    clear v0 v1 hb hL8 he8 HI1 HG1
    obtain ⟨v0, v1, -⟩ := HV8.out.read2
    go_wp2_with fail
    (with_reducible refine (kdash_any A7 _ ps [m, m] n7 c7 2 2 cl (f + m) _ HN7.out HL7.out (HP7.out.next (below_next HG2.out HG8.out)) HOK.out rfl (ints2 HI8.out) HOM.out (by omega) (by omega) (by omega)).mono ?_); rintro e w9 ⟨A9, c9, es9, rfl, hL9, he9, hb⟩
    have HG3 := hid (below_next HG2.out (below_next HG8.out hb))
    have HL9 := hid hL9
    have HL8' := hid (HL8.out.next (below_next HG8.out hb))
    have HE9 := hid he9
    have HV9 := hid (HV7.out.next HG3.out)
    clear v0 v1 hb hL9 he9 HI8 HG8 HV8 HG2 HL8
    obtain ⟨v0, v1, -⟩ := HV9.out.read2
    go_wp2_with fail
    (with_reducible refine (dlen_ok A7 ps n7 c7 cl _ HN7.out (by have := HN7.out; have := okLn.le8 HOK.out; omega) HL7.out (HP7.out.next HG3.out) (HOK.out.chk cl)).mono ?_); rintro e w10 ⟨rfl, hb⟩
    have HG4 := hid (below_next HG3.out hb)
    have HLA := hid (HL8'.out.next hb)
    have HLB := hid (HL9.out.next hb)
    have HV10 := hid (HV9.out.next hb)
    have HP10 := hid (HP7.out.next HG4.out)
    have HB10 := hid (below_next HB7'.out HG4.out)
    clear v0 v1 hb HV9 HL8' HL9 HG3 HV7 HP7
    obtain ⟨L, hL⟩ : ∃ L, L = lenP (walkP ps cl) := ⟨_, rfl⟩
    have HLL := hid hL
    have hL0 : 0 ≤ L := by rw [hL]; exact posn_nn _ _
    rw [← hL]
    clear hL
    obtain ⟨na, hna⟩ : ∃ na, na = es8.length := ⟨_, rfl⟩
    obtain ⟨nb, hnb⟩ : ∃ nb, nb = es9.length := ⟨_, rfl⟩
    have HNA := hid hna
    have HNB := hid hnb
    rw [← hna, ← hnb]
    clear hna hnb
    by_cases hz : L = 0
    · have e8 : na = 0 := by
        have h1 := congrArg List.length HE8.out
        have h2 : spD ps cl [m, m] f = [] := spans_none (by rw [← HLL.out]; omega)
        rw [HNA.out]
        unfold dashL at h1
        rw [h2] at h1
        simpa using h1
      have e9 : nb = 0 := by
        have h1 := congrArg List.length HE9.out
        have h2 : spD ps cl [m, m] (f + m) = [] := spans_none (by rw [← HLL.out]; omega)
        rw [HNB.out]
        unfold dashL at h1
        rw [h2] at h1
        simpa using h1
      subst hz
      rw [e8, e9]
      go_wp2_with fail
      go_ret
      exact ⟨rfl, HB10.out⟩
    · have hLp : 0 < L := by omega
      go_upto_if 93 with fail
      obtain ⟨K, T, hK1, hT0, hTK, hA, hB⟩ := compl_spans ⟨hm1, hm2⟩ ⟨hf1, hf2⟩ hLp
      have HT0 := hid hT0
      have HTK := hid hTK
      have HA := hid hA
      have HB := hid hB
      have HF8 := hid (few_spans (cl := cl) (phase := f) HOK.out HOM.out (by omega))
      have HF9 := hid (few_spans (cl := cl) (phase := f + m) HOK.out HOM.out (by omega))
      clear hT0 hTK hA hB
      go_cut [8, 10] (fun s8 s10 wx => wx = w10 ∧ ∃ (Aa Ab : Option Addr) (ma mb ca cb : Nat), s8 = .slice Aa ma ca ∧ s10 = .slice Ab mb cb ∧ ma = (K + 1) / 2 ∧ mb = K / 2 ∧ ma ≤ 10000 ∧ mb ≤ 10000 ∧ Hid (PcR w10 Aa ma (walkP ps cl) T 0 ∧ PcR w10 Ab mb (walkP ps cl) T 1))
      case first =>
        have h8 : na ≤ 10000 := by
          have h1 := congrArg List.length HE8.out
          unfold dashL at h1
          rw [List.take_length, List.length_map, List.length_map] at h1
          have := HF8.out
          have := HNA.out
          omega
        have h9 : nb ≤ 10000 := by
          have h1 := congrArg List.length HE9.out
          unfold dashL at h1
          rw [List.take_length, List.length_map, List.length_map] at h1
          have := HF9.out
          have := HNB.out
          omega
        by_cases hmf : m ≤ f
        · have ha := HA.out
          have hb := HB.out
          rw [if_pos hmf, HLL.out] at ha hb
          obtain ⟨e1, p1⟩ := PcR.of (r := 0) HNB.out HLB.out HE9.out ha
          obtain ⟨e2, p2⟩ := PcR.of (r := 1) HNA.out HLA.out HE8.out hb
          have HPP := hid (And.intro p1 p2)
          have E1 := hid e1
          have E2 := hid e2
          clear p1 p2 ha hb e1 e2
          go_wp2_with fail
          go_meet
          exact ⟨rfl, A9, A8, nb, na, c9, c8, rfl, rfl, E1.out, E2.out, h9, h8, HPP⟩
        · have ha := HA.out
          have hb := HB.out
          rw [if_neg hmf, HLL.out] at ha hb
          obtain ⟨e1, p1⟩ := PcR.of (r := 0) HNA.out HLA.out HE8.out ha
          obtain ⟨e2, p2⟩ := PcR.of (r := 1) HNB.out HLB.out HE9.out hb
          have HPP := hid (And.intro p1 p2)
          have E1 := hid e1
          have E2 := hid e2
          clear p1 p2 ha hb e1 e2
          go_wp2_with fail
          go_meet
          exact ⟨rfl, A8, A9, na, nb, c8, c9, rfl, rfl, E1.out, E2.out, h8, h9, HPP⟩
      case rest =>
        obtain ⟨hwx, Aa, Ab, ma, mb, ca, cb, rfl, rfl, ema, emb, ma1, mb1, HPP⟩ := hcut
        obtain rfl := hwx.symm
        clear HE8 HE9 HLA HLB HF8 HF9 HA HB HNA HNB
        have HK := hid (show ma + mb = K by omega)
        have EMA := hid ema
        have EMB := hid emb
        clear ema emb
        have HLS := hid (show 0 < lenP (walkP ps cl) by rw [← HLL.out]; exact hLp)
        have HST := hid (start_pt HLS.out)
        have hn0 : 0 < n7 := by rw [HN7.out]; exact HST.out.1
        obtain ⟨a7, rfl, ha7, hq0⟩ := HP10.out.at_ HST.out.1
        obtain ⟨a7', ha7', -, hqN⟩ := HP10.out.at_ (show ps.length - 1 < ps.length from Nat.sub_lt HST.out.1 (by omega))
        obtain rfl := Option.some.inj ha7'
        rw [show a7.add (0 * 2) = a7 by unfold Addr.add; rfl] at hq0
        have HQ0 := hid (show PtAt w10 a7 (ps.getD 0 default) by rw [List.getD_eq_getElem?_getD, List.getElem?_eq_getElem HST.out.1]; exact hq0)
        have HQN := hid (show PtAt w10 (a7.add ((n7 - 1) * 2)) (ps.getD (ps.length - 1) default) by rw [HN7.out, List.getD_eq_getElem?_getD, List.getElem?_eq_getElem (Nat.sub_lt HST.out.1 (by omega))]; exact hqN)
        have HA7 := hid ha7
        clear hq0 hqN ha7' ha7
        obtain ⟨b14, hb14⟩ : ∃ b, b = w10.heap.size := ⟨_, rfl⟩
        have HB14 := hid hb14
        have q0 := HQ0.out.c0
        have q1 := HQ0.out.c1
        generalize hP0 : ps.getD 0 default = P0 at HST HQ0 q0 q1
        have HP0 := hid hP0
        clear hP0
        obtain ⟨v0, v1, -⟩ := HV10.out.read2
        go_wp2_with fail
        rw [← hb14]
        have HV14 := hid (Var.new w10 #[.int .i64 P0.x, .int .i64 P0.y] 37 b14 hb14)
        have HG14 := hid (below_alloc (Below.refl w10.heap.size w10) (.cells #[.int .i64 P0.x, .int .i64 P0.y] 37))
        clear v0 v1 q0 q1 hb14
        go_loopw [106] (fun s106 wr => ∃ (k : Nat), k ≤ K ∧ s106 = .int .i64 k ∧ Hid (Var wr b14 #[.int .i64 (posS (sidesP (walkP ps cl)) (T k)).x, .int .i64 (posS (sidesP (walkP ps cl)) (T k)).y] 37 ∧ Below w10.heap.size w10 wr)) (fun s106 _ => K - (intOf s106).toNat)
        case atStart => exact ⟨0, Nat.zero_le _, rfl, hid ⟨by rw [HT0.out, HST.out.2]; exact HV14.out, HG14.out⟩⟩
        case round =>
          clear HV14 HG14
          obtain ⟨k, hk, rfl, HI⟩ := hrel
          by_cases hlt : k < K
          · have hlt' : (k : Int) < (ma : Int) + (mb : Int) := by have := HK.out; omega
            obtain ⟨j, r, hjr, hr2⟩ : ∃ j r, k = 2 * j + r ∧ r < 2 := ⟨k / 2, k % 2, by omega, by omega⟩
            have HJR := hid hjr
            have e1 : Int.tmod (k : Int) 2 = (r : Int) := by rw [Int.tmod_eq_emod_of_nonneg (by omega)]; omega
            have e2 : (k : Int) % 2 = (r : Int) := by omega
            have q1 : Int.tdiv (k : Int) 2 = (j : Int) := by rw [Int.tdiv_eq_ediv_of_nonneg (by omega)]; omega
            have q2 : (k : Int) / 2 = (j : Int) := by omega
            clear hjr
            go_upto_if 112 with fail
            go_cut [17] (fun s17 wx => wx = wr ∧ ∃ (Ad : Option Addr) (md cd : Nat), s17 = .slice Ad md cd ∧ j < md ∧ md ≤ 10000 ∧ Hid (PcR wr Ad md (walkP ps cl) T r))
            case first =>
              have hlk := hlt
              by_cases h0 : r = 0
              · subst h0
                have hj : j < ma := by have := HJR.out; have := EMA.out; omega
                go_wp2_with fail
                go_meet
                exact ⟨rfl, Aa, ma, ca, rfl, hj, ma1, hid (HPP.out.1.next HI.out.2)⟩
              · obtain rfl : r = 1 := by omega
                have hj : j < mb := by have := HJR.out; have := EMB.out; omega
                go_wp2_with fail
                go_meet
                exact ⟨rfl, Ab, mb, cb, rfl, hj, mb1, hid (HPP.out.2.next HI.out.2)⟩
            case rest =>
              obtain ⟨hwx, Ad, md, cd, rfl, hj, hmd, HD⟩ := hcut
              obtain rfl := hwx.symm
              obtain ⟨a, b, N, cN, rfl, hal, hbl, hc0, hc1, hN, hNm, hpb, hpe⟩ := HD.out.at_ hj
              rw [← HJR.out] at hpb hpe
              have HPB := hid hpb
              have HPE := hid hpe
              have HHB := hid hbl
              have HHA := hid hal
              have HNM := hid hNm
              clear hpb hpe hal hbl hNm e1 e2
              have hj' : (j : Int) < (md : Int) := by omega
              have hN' : (2 : Int) ≤ (N : Int) := by omega
              obtain ⟨d0, d1, df⟩ := HI.out.1.read2
              have p0 := HPB.out.c0
              have p1 := HPB.out.c1
              generalize hP : posS (sidesP (walkP ps cl)) (T k) = P at HPB d0 d1 p0 p1
              have HP' := hid hP
              clear hP
              go_upto_region 25 with fail
              go_cut [148] (fun s148 wx => s148 = .bool false ∧ ∃ q, wx = wr.drewN q)
              case first =>
                have hw : IntKind.i64.wrap (j : Int) = (j : Int) := IntWalk.i64_in _ (by omega)
                have hN0 : 0 < N := by omega
                have hN0z : (0 : Int) < (N : Int) := by omega
                have hd1 : decide ((md : Int) ≤ (j : Int)) = false := decide_eq_false (by omega)
                have hd2 : decide ((N : Int) < 2) = false := decide_eq_false (by omega)
                have hd3 : decide (md ≤ j) = false := decide_eq_false (by omega)
                have hd4 : decide (N < 2) = false := decide_eq_false (by omega)
                have hd5 : decide ((j : Int) ≥ (md : Int)) = false := decide_eq_false (by omega)
                go_quiet (fail)
                go_wp2_with fail
                go_meet
                exact ⟨rfl, _, rfl⟩
              case rest =>
                obtain ⟨rfl, q, hwx⟩ := hcut
                have hbq := below_drewN (Below.refl wr.heap.size wr) q
                rw [← hwx] at hbq
                have hc0' := (hbq.cell (p := a.add (j * 2)) (by rw [add_block]; exact HHA.out)).trans hc0
                have HV2 := hid (HI.out.1.next hbq)
                have HBW := hid (below_next HI.out.2 hbq)
                have HPE2 := hid (HPE.out.below hbq (by rw [add_block]; exact HHB.out))
                clear hwx hbq hc0 hc1 d0 d1 p0 p1 HI HPE HPB HD
                obtain ⟨N1, rfl⟩ : ∃ N1, N = N1 + 1 := ⟨N - 1, by omega⟩
                have t0 := HPE2.out.c0
                have t1 := HPE2.out.c1
                rw [show N1 + 1 - 1 = N1 from rfl] at t0 t1
                have hN0 : 0 < N1 + 1 := by omega
                have hw : IntKind.i64.wrap (j : Int) = (j : Int) := IntWalk.i64_in _ (by omega)
                generalize hR : posS (sidesP (walkP ps cl)) (T (k + 1)) = R at HPE2 t0 t1
                have HR' := hid hR
                have hNb : N1 + 1 ≤ maxLen := HNM.out
                unfold maxLen at hNb
                clear hR HPE2
                obtain ⟨d0, d1, df⟩ := HV2.out.read2
                go_upto_region 27 with fail
                go_region
                go_wp2_with fail
                go_roundw
                case rel =>
                  refine ⟨k + 1, by omega, by push_cast; rfl, hid ⟨?_, ?_⟩⟩
                  · rw [HR'.out]
                    have hV := (HV2.out.set (i := 0) (.int .i64 R.x)).set (i := 1) (.int .i64 R.y)
                    exact hV
                  · have hB := (HBW.out.setCell (p := ⟨b14, 0, none⟩) (Nat.le_of_eq HB14.out.symm) (.int .i64 R.x)).setCell (p := ⟨b14, 1, none⟩) (Nat.le_of_eq HB14.out.symm) (.int .i64 R.y)
                    exact below_drewN hB 1
                case measure => simp [intOf]; omega
          · obtain rfl : k = K := by omega
            have hge : ¬ (k : Int) < (ma : Int) + (mb : Int) := by have := HK.out; omega
            have hE : posS (sidesP (walkP ps cl)) (T k) = if cl = true then P0 else ps.getD (ps.length - 1) default := by rw [HTK.out, HLL.out, end_pt HLS.out, HP0.out]
            rw [hE] at HI
            clear hE
            have HPa := hid (HQ0.out.below HI.out.2 HA7.out)
            have HPz := hid (HQN.out.below HI.out.2 (by rw [add_block]; exact HA7.out))
            have HVz := hid (HV10.out.next HI.out.2)
            have HBz := hid (below_next HB10.out HI.out.2)
            generalize ps.getD (ps.length - 1) default = Q at HI HPz HQN
            obtain ⟨n8, rfl⟩ : ∃ n8, n7 = n8 + 1 := ⟨n7 - 1, by omega⟩
            rw [show n8 + 1 - 1 = n8 from rfl] at HPz
            have hNb : n8 + 1 ≤ maxLen := by have := HL7.out; omega
            unfold maxLen at hNb
            obtain ⟨v0, v1, vf⟩ := HVz.out.read2
            have z0 := HPz.out.c0
            have z1 := HPz.out.c1
            go_upto_region 30 with fail
            have HX := hid (below_alloc (Below.refl wr.heap.size wr) (.cells #[.int .i64 Q.x, .int .i64 Q.y] 37))
            obtain ⟨b18, hb18⟩ : ∃ b, b = wr.heap.size := ⟨_, rfl⟩
            have HNE := hid (show b14 ≠ b18 by rw [hb18]; exact Nat.ne_of_lt HI.out.1.lt)
            have HB18 := hid (show w.heap.size ≤ b18 by rw [hb18]; exact HBz.out.size)
            have HV18 := hid (Var.new wr #[.int .i64 Q.x, .int .i64 Q.y] 37 b18 hb18)
            rw [← hb18]
            have HV14 := hid (HI.out.1.next HX.out)
            have HV7x := hid (HVz.out.next HX.out)
            have HPX := hid (HPa.out.below HX.out (Nat.lt_of_lt_of_le HA7.out HI.out.2.size))
            have HBX := hid (below_next HBz.out HX.out)
            clear v0 v1 vf z0 z1 hb18
            generalize wr.alloc (.cells #[.int .i64 Q.x, .int .i64 Q.y] 37) = X at HV18 HV14 HV7x HPX HBX ⊢
            obtain ⟨v0, v1, vf⟩ := HV7x.out.read2
            cases cl with
            | true =>
              have p0 := HPX.out.c0
              have p1 := HPX.out.c1
              obtain ⟨s0, s1, sf⟩ := HV18.out.read2
              go_upto_region 32 with fail
              have HW18 : Var ((X.setCell ⟨b18, 0, none⟩ (.int .i64 P0.x)).setCell ⟨b18, 1, none⟩ (.int .i64 P0.y)) b18 #[.int .i64 P0.x, .int .i64 P0.y] 37 := (HV18.out.set (i := 0) (.int .i64 P0.x)).set (i := 1) (.int .i64 P0.y)
              have HW14 : Var ((X.setCell ⟨b18, 0, none⟩ (.int .i64 P0.x)).setCell ⟨b18, 1, none⟩ (.int .i64 P0.y)) b14 #[.int .i64 P0.x, .int .i64 P0.y] 37 := (HV14.out.far (p := ⟨b18, 0, none⟩) HNE.out (.int .i64 P0.x)).far (p := ⟨b18, 1, none⟩) HNE.out (.int .i64 P0.y)
              have HBE := hid ((HBX.out.setCell (p := ⟨b18, 0, none⟩) HB18.out (.int .i64 P0.x)).setCell (p := ⟨b18, 1, none⟩) HB18.out (.int .i64 P0.y))
              clear v0 v1 vf p0 p1 s0 s1 sf
              generalize (X.setCell ⟨b18, 0, none⟩ (.int .i64 P0.x)).setCell ⟨b18, 1, none⟩ (.int .i64 P0.y) = Y at HW18 HW14 HBE ⊢
              obtain ⟨y0, y1, -⟩ := HW18.read2
              obtain ⟨x0, x1, -⟩ := HW14.read2
              go_wp2_with fail
              go_ret
              exact ⟨rfl, HBE.out⟩
            | false =>
              obtain ⟨y0, y1, -⟩ := HV18.out.read2
              have HW14 : Var X b14 #[.int .i64 Q.x, .int .i64 Q.y] 37 := HV14.out
              obtain ⟨x0, x1, -⟩ := HW14.read2
              go_wp2_with fail
              go_ret
              exact ⟨rfl, HBX.out⟩
end Go.Proofs.Ytjflgblplmgjlaa
