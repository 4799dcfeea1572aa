/- Of of package region. -/
import Derived.Test.YtldbpabnfjnpbaaSort
import Derived.Test.YtldbpabnfjnpbaaAddC
import Derived.Test.YtldbpabnfjnpbaaRect
namespace Go.Proofs.Ytldbpabnfjnpbaa
open Go Go.RowKit
set_option linter.unusedVariables false

/-- The error of listed cells. -/
def ofE (ps : List P2) : Int := if ∀ p ∈ ps, PIn p then 0 else 3
def GivesOf (ps : List P2) (w : World) (e : Ending) (w' : World) : Prop := ∃ v rs, e = .returned (.tuple #[v, .int .i64 (ofE ps)]) ∧ OwnR w' w.heap.size v rs ∧ Below w.heap.size w w' ∧ rs.length ≤ ps.length ∧ (ofE ps = 0 → Made ps rs) ∧ (ofE ps ≠ 0 → rs = [])
/-- The second loop: j of the sorted cells are in the region. -/
def OL (qs : List P2) (n : Nat) (W2 : World) (s33 s7 : Value) (wr : World) : Prop :=
  ∃ (j : Nat) (v : Value) (rs : List Rn), s7 = v ∧ j ≤ n ∧ s33 = .int .i64 j ∧ Hid (OwnR wr W2.heap.size v rs ∧ Below W2.heap.size W2 wr ∧ MadeL (qs.take j) rs)
theorem enters_addC : Enters Try.prog 54 := enters_of Try.func54 (by kernel_rfl) rfl

set_option maxHeartbeats 4000000 in
set_option maxRecDepth 100000 in
theorem of_any (A : Option Addr) (ps : List P2) (n c : Nat) (w : World) (hn : n = ps.length) (hl : n ≤ 1000000000) (hs : Pts w A ps) :
    Calls Try.prog 18 #[.slice A n c] w (GivesOf ps w) := by
  have HS := hid hs
  have HN := hid hn
  clear hs hn
  go_enter Try.func18, Try.ntmps18
  go_wp2_with fail
  go_loopw [12] (fun s12 wr => ∃ (j : Nat), j ≤ n ∧ s12 = .int .i64 j ∧ Hid ((∀ p ∈ ps.take j, PIn p) ∧ Below w.heap.size w wr)) (fun s12 _ => n - (intOf s12).toNat)
  case atStart => exact ⟨0, Nat.zero_le _, rfl, hid ⟨fun p hp => by simp at hp, Below.refl _ _⟩⟩
  case round =>
    obtain ⟨j, hj, rfl, HB⟩ := hrel
    by_cases hlt : j < n
    · have hjl : j < ps.length := by rw [← HN.out]; exact hlt
      obtain ⟨a, rfl, hal, hsa⟩ := (HS.out.next HB.out.2).at_ hjl
      have HT := hid (show ∀ p, p ∈ ps.take (j + 1) ↔ p ∈ ps.take j ∨ p = ps[j] from fun p => by rw [List.take_succ_eq_append_getElem hjl, List.mem_append, List.mem_singleton])
      have HM := hid (List.getElem_mem hjl)
      generalize ps[j] = p at hsa HT HM
      obtain ⟨c0, c1⟩ := hsa
      have HB2 := hid (below_alloc HB.out.2 (.cells (pcel p) 31))
      by_cases h0 : -8192 ≤ p.x ∧ p.x ≤ 8191
      · by_cases h1 : -8192 ≤ p.y ∧ p.y ≤ 8191
        · have HR := hid (show (∀ q ∈ ps.take (j + 1), PIn q) ∧ Below w.heap.size w (wr.alloc (.cells (pcel p) 31)) from ⟨fun q hq => by
            rcases (HT.out q).1 hq with k | rfl
            · exact HB.out.1 q k
            · exact ⟨h0, h1⟩, HB2.out⟩)
          go_wp2_with (go_at_call 47; (with_reducible refine (perm_t _ _ (by assumption)).mono ?_); rintro e w' ⟨rfl, rfl⟩)
          go_roundw
          case rel => exact ⟨j + 1, by omega, by go_num, HR⟩
          case measure => simp [intOf]; omega
        · have HE := hid (show ofE ps = 3 from if_neg fun k => h1 (k p HM.out).2)
          go_wp2_with (go_at_call 47; (first | (with_reducible refine (perm_t _ _ (by assumption)).mono ?_) | (with_reducible refine (perm_f _ _ (by assumption)).mono ?_)); rintro e w' ⟨rfl, rfl⟩)
          go_ret2
          exact ⟨_, [], by rw [HE.out]; rfl, OwnR.nil _ _, HB2.out, Nat.zero_le _, fun h => absurd (HE.out.symm.trans h) (by decide), fun _ => rfl⟩
      · have HE := hid (show ofE ps = 3 from if_neg fun k => h0 (k p HM.out).1)
        go_wp2_with (go_at_call 47; (with_reducible refine (perm_f _ _ (by assumption)).mono ?_); rintro e w' ⟨rfl, rfl⟩)
        go_ret2
        exact ⟨_, [], by rw [HE.out]; rfl, OwnR.nil _ _, HB2.out, Nat.zero_le _, fun h => absurd (HE.out.symm.trans h) (by decide), fun _ => rfl⟩
    · have HP := hid (show ∀ p ∈ ps, PIn p from fun p hp => HB.out.1 p (by rw [List.take_of_length_le (by have := HN.out; omega)]; exact hp))
      have HE := hid (show ofE ps = 0 from if_pos HP.out)
      obtain ⟨w1, rfl⟩ : ∃ w1, w1 = wr := ⟨_, rfl⟩
      go_wp2_with fail
      (with_reducible refine (clone_any A ps n c _ HN.out (by omega) (HS.out.next HB.out.2)).mono ?_); rintro e w2 ⟨v, rfl, ho, hb2⟩
      have HO := hid ho
      have HB2 := hid (below_next HB.out.2 hb2)
      have HB20 := hid hb2
      clear ho hb2
      go_wp2_with fail
      (with_reducible refine (sort_any v ps w1.heap.size _ HB20.out.size HO.out (by have := HN.out; omega)).mono ?_); rintro e w3 ⟨rfl, A3, c3, qs, hv, hperm, hord, hq, hb3⟩
      rw [← HN.out] at hv
      have HB3 := hid (show Below w.heap.size w w3 from HB2.out.trans (hb3.mono HB.out.2.size))
      have HQ := hid hq
      have HQN := hid (show n = qs.length from HN.out.trans hperm.length_eq.symm)
      have HPM := hid hperm
      have HOR := hid hord
      have HPQ := hid (show ∀ q ∈ qs, PIn q from fun q hq => HP.out q (hperm.mem_iff.1 hq))
      clear hb3 hq hperm hord HO HB2 HB20
      subst hv
      go_wp2_with fail
      go_loopw [33, 7] (fun s33 s7 wr => OL qs n w3 s33 s7 wr) (fun s33 _ _ => n - (intOf s33).toNat)
      case atStart => exact ⟨0, _, [], rfl, Nat.zero_le _, rfl, hid ⟨OwnR.nil _ _, Below.refl _ _, Made.nil⟩⟩
      case round =>
        obtain ⟨k, v, rs, hv, hkn, rfl, HL⟩ := hrel
        have hv' := hv.symm
        clear hv
        subst hv'
        by_cases hlt2 : k < n
        · have hkl : k < qs.length := by rw [← HQN.out]; exact hlt2
          obtain ⟨a, rfl, hal, hsa⟩ := (HQ.out.next HL.out.2.1).at_ hkl
          have HSt := hid (show MadeL (qs.take (k + 1)) (addC rs qs[k]) from by
            rw [List.take_succ_eq_append_getElem hkl]
            refine HL.out.2.2.step (HPQ.out _ (List.getElem_mem hkl)) fun q hq => ?_
            obtain ⟨i, hi, hiq⟩ : ∃ i, ∃ h : i < qs.length, i < k ∧ qs[i] = q := by
              have hm := List.mem_of_getLast? hq
              obtain ⟨i, hi, e⟩ := List.getElem_of_mem hm
              rw [List.length_take] at hi
              exact ⟨i, by omega, by omega, by rw [← e]; simp⟩
            exact hiq.2 ▸ List.pairwise_iff_getElem.1 HOR.out i k hi hkl hiq.1)
          have HPk := hid (HPQ.out _ (List.getElem_mem hkl))
          have hlen : rs.length ≤ 5000000000 := by have := HL.out.2.2.len; rw [List.length_take] at this; omega
          generalize qs[k] = q at hsa HSt HPk
          obtain ⟨c0, c1⟩ := hsa
          have HB4 := hid (below_alloc HL.out.2.1 (.cells (pcel q) 31))
          have HO4 := hid (HL.out.1.next ((Below.refl wr.heap.size wr).alloc (Nat.le_refl _) (.cells (pcel q) 31)))
          go_wp2_with fail
          (with_reducible refine (addC_any v rs q w3.heap.size _ HPk.out HB4.out.size HO4.out hlen).mono ?_); rintro e w5 ⟨v', rfl, ho5, hg5⟩
          have HL5 := hid (show OwnR w5 w3.heap.size v' (addC rs q) ∧ Below w3.heap.size w3 w5 ∧ MadeL (qs.take (k + 1)) (addC rs q) from ⟨ho5, HB4.out.trans (hg5.below HB4.out.size (fun i hi => (HO4.out.ge i hi).1)), HSt.out⟩)
          clear ho5 hg5 c0 c1
          go_wp2_with fail
          go_roundw
          case rel => exact ⟨k + 1, v', _, rfl, by omega, by go_num, HL5⟩
          case measure => simp [intOf]; omega
        · have HM := hid (show MadeL qs rs by have := HL.out.2.2; rwa [List.take_of_length_le (by have := HQN.out; omega)] at this)
          go_wp2_with fail
          go_ret2
          refine ⟨v, rs, by rw [HE.out]; rfl, HL.out.1.mono HB3.out.size, HB3.out.trans (HL.out.2.1.mono HB3.out.size), ?_, fun _ => made_iff HM.out.toMade fun p => HPM.out.mem_iff, fun h => absurd HE.out h⟩
          have := HM.out.len
          rwa [HPM.out.length_eq] at this

end Go.Proofs.Ytldbpabnfjnpbaa
