/- The law DashPeriod. -/
import Derived.Test.YtjflgblplmgjlaaKpd
namespace Go.Proofs.Ytjflgblplmgjlaa
open Go Go.RowKit
set_option linter.unusedVariables false
set_option linter.unusedSimpArgs false

theorem cutP_500 {ps : List P2} : okLn ((ps.take 8).map (cutP 500)) := by
  refine ⟨fun p hp => ?_, by rw [List.length_map, List.length_take]; omega⟩
  obtain ⟨q, -, rfl⟩ := List.mem_map.1 hp
  exact ⟨cutV_in (by omega) _, cutV_in (by omega) _⟩
theorem kfew_ok {es es' : List LE} (h : es'.map LE.ln = ((es.map LE.ln).take 4).map (cutL 500)) : ∀ e ∈ es', okLn e.ps := fun e he => by
  have h1 : e.ln ∈ es'.map LE.ln := List.mem_map_of_mem he
  rw [h] at h1
  obtain ⟨l, -, hl⟩ := List.mem_map.1 h1
  have h2 : e.ps = (l.ps.take 8).map (cutP 500) := by have := congrArg Ln.ps hl; exact this.symm
  rw [h2]
  exact cutP_500
/-- The line of a law, in its block. -/
def KLine (W : World) (b : Nat) (ps : List P2) (cl : Bool) : Prop := ∃ A c, Var W b #[.slice A ps.length c, .bool cl] 27 ∧ Pts W A ps ∧ ps.length ≤ c ∧ c ≤ maxLen
theorem KLine.next {W W' : World} {b : Nat} {ps : List P2} {cl : Bool} (h : KLine W b ps cl) (hb : Below W.heap.size W W') : KLine W' b ps cl := by
  obtain ⟨A, c, h1, h2, h3⟩ := h
  exact ⟨A, c, h1.next hb, h2.next hb, h3⟩

/-- A block with a line holds no number. -/
theorem far_int {W : World} {b n c : Nat} {A : Option Addr} {cl : Bool} {t : TypeId} {p : Addr} {k : IntKind} {z : Int} (hV : Var W b #[.slice A n c, .bool cl] t) (h : W.cell? p = some (.int k z)) : p.block ≠ b := by
  intro e
  unfold Var at hV
  unfold World.cell? at h
  rw [e, hV] at h
  simp only at h
  split at h
  · cases h
  · match hp : p.off, h with
    | 0, h => simp at h
    | 1, h => simp at h
    | i + 2, h => simp at h
theorem Pts.setLn {W : World} {b n c i : Nat} {A A' : Option Addr} {cl : Bool} {t : TypeId} {ps : List P2} {u : Value} (h : Pts W A ps) (hV : Var W b #[.slice A' n c, .bool cl] t) : ∀ a, A = some a → ps ≠ [] → a.block ≠ b := fun a ha hn => by
  obtain ⟨a', e, hl, hr⟩ := h hn
  rw [ha] at e
  obtain rfl := Option.some.inj e
  have := hr 0 _ (List.getElem?_eq_getElem (List.length_pos_iff.2 hn))
  have := far_int hV this.c0
  rwa [add_block] at this
theorem Pts.store {W : World} {b i : Nat} {A : Option Addr} {ps : List P2} {u : Value} (h : Pts W A ps) (hb : ∀ a, A = some a → ps ≠ [] → a.block ≠ b) : Pts (W.setCell ⟨b, i, none⟩ u) A ps := fun hn => by
  obtain ⟨a, rfl, hl, hr⟩ := h hn
  have hne := hb a rfl hn
  have hk : ∀ p : Addr, p.block = a.block → (W.setCell ⟨b, i, none⟩ u).cell? p = W.cell? p := fun p hp => World.cell?_of_block (Below.heap_setCell _ _ _ _ (by rw [hp]; exact hne))
  refine ⟨a, rfl, by rw [World.size_setCell]; exact hl, fun j s hj => ?_⟩
  have := hr j s hj
  exact ⟨(hk _ (add_block _ _)).trans this.c0, (hk ⟨(a.add (j * 2)).block, (a.add (j * 2)).off + 1, none⟩ (add_block a (j * 2))).trans this.c1⟩
theorem IntsA.setLn {W : World} {b n c : Nat} {A A' : Option Addr} {cl : Bool} {t : TypeId} {zs : List Int} (h : IntsA W A zs) (hV : Var W b #[.slice A' n c, .bool cl] t) : ∀ a, A = some a → zs ≠ [] → a.block ≠ b := fun a ha hn => by
  obtain ⟨a', e, hl, hr⟩ := h hn
  rw [ha] at e
  obtain rfl := Option.some.inj e
  have := far_int hV (hr 0 _ (List.getElem?_eq_getElem (List.length_pos_iff.2 hn)))
  rwa [add_block] at this
theorem IntsA.store {W : World} {b i : Nat} {A : Option Addr} {zs : List Int} {u : Value} (h : IntsA W A zs) (hb : ∀ a, A = some a → zs ≠ [] → a.block ≠ b) : IntsA (W.setCell ⟨b, i, none⟩ u) A zs := fun hn => by
  obtain ⟨a, rfl, hl, hr⟩ := h hn
  have hne := hb a rfl hn
  refine ⟨a, rfl, by rw [World.size_setCell]; exact hl, fun j s hj => (World.cell?_of_block (Below.heap_setCell _ _ _ _ (by rw [add_block]; exact hne))).trans (hr j s hj)⟩

set_option maxRecDepth 100000 in
set_option maxHeartbeats 8000000 in
theorem period_law (A : Option Addr) (n c : Nat) (ss : List Ln) (B : Option Addr) (m d : Nat) (zs : List Int) (phase : Int) (w : World) (hn : n = ss.length) (hs : Lns w A ss) (hl : n ≤ maxLen) (hm : m = zs.length) (hz : IntsA w B zs) (hml : m ≤ maxLen) :
    Calls Try.prog 3 #[.slice A n c, .slice B m d, .int .i64 phase] w fun e w' => e = .returned (.bool true) ∧ Below w.heap.size w w' := by
  obtain ⟨es, rfl, hE⟩ := hs.ext
  have HE := hid hE
  have HN := hid (show n = es.length by simpa using hn)
  have HL := hid hl
  have HM := hid hm
  have HZ := hid hz
  have HML := hid hml
  clear hs hE hn hl hm hz hml
  go_enter Try.func3, Try.ntmps3
  go_wp2_with fail
  (with_reducible refine (kdashes_any _).mono ?_); rintro e w1 ⟨rfl, hb⟩
  have HB1 := hid hb
  clear hb
  go_wp2_with fail
  (with_reducible refine (kpattern_any B zs m d _ HM.out HML.out (HZ.out.next HB1.out)).mono ?_); rintro e w2 ⟨⟨Bq, dq, qs, rfl, hq1, hq2, hq3, hq4⟩, hb⟩
  have HB2 := hid (below_next HB1.out hb)
  have HQI := hid hq3
  have HQK := hid hq4
  have HQC := hid (show qs.length ≤ dq ∧ dq ≤ maxLen from ⟨hq1, hq2⟩)
  clear hb hq1 hq2 hq3 hq4
  obtain ⟨k, hk⟩ : ∃ k, k = qs.length := ⟨_, rfl⟩
  have HK := hid hk
  rw [← hk]
  have hk1 : 1 ≤ k := by rw [hk]; exact HQK.out.2.1
  have hk6 : k ≤ 6 := by rw [hk]; exact HQK.out.2.2
  clear hk
  have HV2 := hid (Var.new w2 #[.slice none 0 0, .bool false] 27 _ rfl)
  have HBV := hid (below_alloc (Below.refl w2.heap.size w2) (.cells #[.slice none 0 0, .bool false] 27))
  go_wp2_with fail
  obtain ⟨b7, hb7⟩ : ∃ b7, b7 = w2.heap.size := ⟨_, rfl⟩
  rw [← hb7] at HV2 ⊢
  have HB7 := hid (show w.heap.size ≤ b7 by rw [hb7]; exact HB2.out.size)
  generalize w2.alloc (.cells #[.slice none 0 0, .bool false] 27) = w3 at HV2 HBV ⊢
  have HB3 := hid (below_next HB2.out HBV.out)
  have HQ3 := hid (HQI.out.next HBV.out)
  clear hb7 HBV HQI HB2
  (with_reducible refine (kfew_any A es n c 500 _ HN.out HL.out (HE.out.next HB3.out) (by omega)).mono ?_); rintro e w4 ⟨⟨A4, c4, es4, rfl, hL4, he4⟩, hb⟩
  have HB4 := hid (below_next HB3.out hb)
  have HQ4 := hid (HQ3.out.next hb)
  have HV4 := hid (HV2.out.next hb)
  have HL4 := hid hL4
  have HOK4 := hid (kfew_ok he4)
  clear hb hL4 he4 HB3 HQ3 HV2
  obtain ⟨n4, hn4⟩ : ∃ n4, n4 = es4.length := ⟨_, rfl⟩
  have HN4 := hid hn4
  rw [← hn4]
  clear hn4
  go_upto_if 24 with fail
  go_cut [7] (fun s7 wx => s7 = .pointer (some ⟨b7, 0, none⟩) ∧ ∃ (ps : List P2) (cl : Bool), Hid (KLine wx b7 ps cl ∧ okLn ps ∧ IntsA wx Bq qs ∧ Below w.heap.size w wx))
  case first =>
    by_cases h4 : 0 < n4
    · have h4' : (0 : Int) < (n4 : Int) := by omega
      have hil : 0 < es4.length := by rw [← HN4.out]; exact h4
      obtain ⟨a, rfl, hal, hsa⟩ := HL4.out.at_ hil
      have HOK := hid (HOK4.out _ (List.getElem_mem hil))
      generalize es4[0] = e4 at hsa HOK
      rw [show a.add (0 * 2) = a by unfold Addr.add; rfl] at hsa
      obtain ⟨c0, c1, hp, hle⟩ := hsa
      obtain ⟨v0, v1, vf⟩ := HV4.out.read2
      have HPP := hid hp
      have HLE := hid hle
      clear hp hle
      go_wp2_with fail
      go_meet
      refine ⟨rfl, e4.ps, e4.cl, hid ⟨⟨e4.A, e4.c, ?_, ?_, HLE.out⟩, HOK.out, ?_, ?_⟩⟩
      · have := (HV4.out.set (i := 0) (.slice e4.A e4.ps.length e4.c)).set (i := 1) (.bool e4.cl)
        simpa using this
      · exact (HPP.out.store (HPP.out.setLn (u := undef) (i := 0) HV4.out)).store (HPP.out.setLn (u := undef) (i := 0) HV4.out)
      · exact (HQ4.out.store (HQ4.out.setLn HV4.out)).store (HQ4.out.setLn HV4.out)
      · exact (HB4.out.setCell (p := ⟨b7, 0, none⟩) HB7.out _).setCell (p := ⟨b7, 1, none⟩) HB7.out _
    · have h4' : ¬ (0 : Int) < (n4 : Int) := by omega
      go_wp2_with fail
      go_meet
      exact ⟨rfl, [], false, hid ⟨⟨none, 0, HV4.out, Pts.nil _ _, Nat.le_refl _, Nat.zero_le _⟩, ⟨fun p hp => (by cases hp), by simp⟩, HQ4.out, HB4.out⟩⟩
  case rest =>
    clear HV4 HL4 HOK4 HB4 HQ4
    obtain ⟨rfl, ps, cl, HR⟩ := hcut
    go_wp2_with fail
    go_loopw [8, 30] (fun s8 s30 wr => ∃ (i : Nat), i ≤ k ∧ s8 = .int .i64 (sumL (qs.take i)) ∧ s30 = .int .i64 i ∧ Hid (KLine wr b7 ps cl ∧ okLn ps ∧ IntsA wr Bq qs ∧ Below w.heap.size w wr)) (fun _ s30 _ => k - (intOf s30).toNat)
    case atStart => exact ⟨0, Nat.zero_le _, rfl, rfl, HR⟩
    case round =>
      clear HR
      obtain ⟨i, hi, rfl, rfl, HR⟩ := hrel
      have hb := sumL_up HQK.out.1 i (by rw [← HK.out]; exact hi)
      by_cases hlt : i < k
      · have hil : i < qs.length := by rw [← HK.out]; exact hlt
        obtain ⟨a, rfl, hal, hc⟩ := HR.out.2.2.1.at_ hil
        have HT := hid (sumL_take hil)
        have hx := HQK.out.1 _ (List.getElem_mem hil)
        generalize qs[i] = x at hc HT hx
        generalize sumL (qs.take i) = S at HT hb
        clear hal hil
        go_wp2_with fail
        go_roundw
        case rel => exact ⟨i + 1, by omega, by rw [HT.out], by go_num, HR⟩
        case measure => simp [intOf]; omega
      · obtain rfl : i = k := by omega
        have HT := hid (show sumL (qs.take i) = sumL qs by rw [List.take_of_length_le (by have := HK.out; omega)])
        rw [HT.out] at hb ⊢
        have HPE := hid (show perd qs = if i % 2 = 0 then sumL qs else sumL qs * 2 by unfold perd; rw [HK.out])
        have HQP := hid (HQK.out.pat (by omega))
        generalize sumL qs = S at HPE hb
        obtain ⟨r, hr⟩ : ∃ r, r = i % 2 := ⟨_, rfl⟩
        have hr2 : r < 2 := by omega
        have e1 : Int.tmod (i : Int) 2 = (r : Int) := by rw [Int.tmod_eq_emod_of_nonneg (by omega)]; omega
        have e2 : (i : Int) % 2 = (r : Int) := by omega
        rw [← hr] at HPE
        have HRM := hid hr
        clear hr
        go_upto_if 41 with fail
        go_cut [8] (fun s8 wx => s8 = .int .i64 (perd qs) ∧ Hid (wx = wr))
        case first =>
          by_cases h0 : r = 0
          · subst h0
            rw [if_pos rfl] at HPE
            go_wp2_with fail
            go_meet
            exact ⟨by rw [HPE.out], hid rfl⟩
          · obtain rfl : r = 1 := by omega
            rw [if_neg (by decide)] at HPE
            go_wp2_with fail
            go_meet
            exact ⟨by rw [HPE.out], hid rfl⟩
        case rest =>
          obtain ⟨rfl, hwr⟩ := hcut
          replace HR := hid (show KLine wc b7 ps cl ∧ okLn ps ∧ IntsA wc Bq qs ∧ Below w.heap.size w wc by rw [hwr.out]; exact HR.out)
          clear hwr e1 e2 HPE HT
          obtain ⟨-, -, hp1, hp2⟩ := HQP.out
          have HPD := hid (show 1 ≤ perd qs from hp1)
          obtain ⟨T, hT⟩ : ∃ T, T = perd qs := ⟨_, rfl⟩
          have HTT := hid hT
          rw [← hT] at hp1 hp2 ⊢
          clear hT
          go_wp2_with fail
          (with_reducible refine (kcut_in phase 0 100000 _ (by omega) (by omega) (by omega) (by omega)).mono ?_); rintro e w5 ⟨f, hf1, hf2, rfl, hw5⟩
          replace HR := hid (show KLine w5 b7 ps cl ∧ okLn ps ∧ IntsA w5 Bq qs ∧ Below w.heap.size w w5 by rw [← hw5]; exact HR.out)
          clear hw5
          obtain ⟨A7, c7, hv7, hp7, hle7⟩ := HR.out.1
          have HV7 := hid hv7
          have HP7 := hid hp7
          have HL7 := hid hle7
          obtain ⟨n7, hn7⟩ : ∃ n7, n7 = ps.length := ⟨_, rfl⟩
          have HN7 := hid hn7
          rw [← hn7] at HV7 HL7
          obtain ⟨v0, v1, -⟩ := HV7.out.read2
          clear hv7 hp7 hle7 hn7
          go_wp2_with fail
          (with_reducible refine (kdash_any A7 Bq ps qs n7 c7 i dq cl f _ HN7.out HL7.out HP7.out HR.out.2.1 HK.out HR.out.2.2.1 HQK.out (by omega) hf1 (by omega)).mono ?_); rintro e w6 ⟨A8, c8, es8, rfl, hL8, he8, hb⟩
          have HL8 := hid hL8
          have HE8 := hid he8
          have HB6 := hid (below_next HR.out.2.2.2 hb)
          have HV6 := hid (HV7.out.next hb)
          have HP6 := hid (HP7.out.next hb)
          have HQ6 := hid (HR.out.2.2.1.next hb)
          clear v0 v1 hb hL8 he8
          obtain ⟨v0, v1, -⟩ := HV6.out.read2
          go_wp2_with fail
          (with_reducible refine (kdash_any A7 Bq ps qs n7 c7 i dq cl (f + T) _ HN7.out HL7.out HP6.out HR.out.2.1 HK.out HQ6.out HQK.out (by omega) (by omega) (by omega)).mono ?_); rintro e w7 ⟨A9, c9, es9, rfl, hL9, he9, hb⟩
          have HL9 := hid hL9
          have HE9 := hid he9
          have HB7' := hid (below_next HB6.out hb)
          have HL8' := hid (HL8.out.next hb)
          have HSAME := hid (show es8.map LE.ln = es9.map LE.ln by
            rw [he9, HE8.out]
            have : spD ps cl qs (f + T) = spD ps cl qs f := by
              unfold spD
              rw [HTT.out, Int.add_emod_right]
            rw [this])
          have HLL := hid (show es8.length = es9.length by have := congrArg List.length HSAME.out; simpa using this)
          obtain ⟨n8, hn8⟩ : ∃ n8, n8 = es8.length := ⟨_, rfl⟩
          have HN8 := hid hn8
          rw [← HLL.out, ← hn8]
          have HN8L := hid (show n8 ≤ maxLen by
            rw [hn8]
            have h1 := congrArg List.length HE8.out
            have h2 := few_spans (cl := cl) (phase := f) HR.out.2.1 HQK.out (by omega)
            unfold dashL at h1
            rw [List.length_map, List.length_map, List.length_take] at h1
            unfold maxLen
            omega)
          clear v0 v1 hb hL9 he9 hn8
          go_wp2_with fail
          (with_reducible refine (equalf_yes A8 A9 n8 c8 c9 es8 es9 _ HN8.out (HN8.out.trans HLL.out) HN8L.out HL8'.out HL9.out HSAME.out).mono ?_); rintro e w8 ⟨rfl, hb⟩
          have HB8 := hid (below_next HB7'.out hb)
          clear hb
          go_wp2_with fail
          go_ret
          exact ⟨rfl, HB8.out⟩
end Go.Proofs.Ytjflgblplmgjlaa
