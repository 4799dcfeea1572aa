/- ConicReversed: the lines of a reversed path are the reversed lines. -/
import Derived.Test.YtcdedefhofkbhaaRows
import Derived.WalkKit
import Derived.ProofKit
import Derived.OpenShut
import Derived.ChangeOld
import Derived.Below
import Derived.Test.YtcdedefhofkbhaaOpen
import Derived.Test.YtcdedefhofkbhaaRevC
import Derived.Test.YtcdedefhofkbhaaRevL
import Derived.Test.YtcdedefhofkbhaaRev
import Derived.Test.YtcdedefhofkbhaaArcs
import Derived.Test.YtcdedefhofkbhaaFlatn
namespace Go.Proofs.Ytcdedefhofkbhaa.conicReversed
open Go Go.ChangeShapes Go.WideShapes Go.ChangeAt Go.RowKit Go.Deep
set_option linter.unusedVariables false

-- caps
theorem flat_len {ss : List Sg} (h : chk ss = 0) : (flatL ss).length ≤ 1000 ∧ ∀ l ∈ flatL ss, l.ps.length ≤ 1000000 := by
  have key : ∀ k, k ≤ ss.length → (flatL (ss.take k)).length ≤ k ∧ ∀ l ∈ flatL (ss.take k), l.ps.length ≤ 512 * k := by
    intro k
    induction k with
    | zero => intro _; exact ⟨Nat.le_refl _, fun l hl => by simp [flatL] at hl⟩
    | succ k ih =>
      intro hk
      obtain ⟨i1, i2⟩ := ih (by omega)
      obtain ⟨ls, l, e1, e2⟩ := flat_ok h (k + 1) hk (by omega)
      have hkl : k < ss.length := by omega
      by_cases h1 : ss[k].k = 1
      · rw [flatL_take hkl, addL_move _ h1]
        refine ⟨by simp; omega, fun l hl => ?_⟩
        rcases List.mem_append.1 hl with hl | hl
        · have := i2 l hl; omega
        · rw [List.mem_singleton] at hl; subst hl; show 1 ≤ _; omega
      · have hk0 : 0 < k := by
          rcases Nat.eq_zero_or_pos k with e | e
          · subst e; exact absurd (chk_first h (by omega)) h1
          · exact e
        obtain ⟨ls0, l0, f1, f2⟩ := flat_ok h k (by omega) hk0
        rw [flatL_take hkl, f1, addL_last _ _ h1] at e1 ⊢
        rw [f1] at i1 i2
        have e3 : updL l0 ss[k] = l := (List.append_inj_right' e1 rfl) |> fun h => by simpa using h
        refine ⟨by simp at i1 ⊢; omega, fun x hx => ?_⟩
        rcases List.mem_append.1 hx with hx | hx
        · have := i2 x (List.mem_append_left _ hx); omega
        · rw [List.mem_singleton] at hx; subst hx; rw [e3]; exact e2.n
  have hl := chk_le h
  have := key ss.length (Nat.le_refl _)
  rw [List.take_of_length_le (Nat.le_refl _)] at this
  exact ⟨by omega, fun l hx => by have := this.2 l hx; omega⟩
theorem enters_eq : Enters Try.prog 17 := enters_of Try.func17 (by kernel_rfl) rfl
set_option maxHeartbeats 6400000 in
set_option maxRecDepth 100000 in
theorem rest (A : Option Addr) (n c : Nat) (ss : List Sg) (W : World) (hn : n = ss.length) (hs : Segs W A ss) (hm : ss.length ≤ maxLen) (hc : n ≤ c ∧ c ≤ maxLen) :
    Calls Try.prog 5 #[.slice A n c] W fun e w' => e = .returned (.bool true) ∧ Below W.heap.size W w' := by
  have HS := hid hs
  have HN := hid hn
  obtain ⟨hc1, hc2⟩ := hc
  have HCM := hid hc2
  unfold maxLen at hc2 hm
  rw [← hn] at hm
  clear hs hn
  go_enter Try.func5, Try.ntmps5
  go_wp2_with fail
  (with_reducible refine (arcs_any _).mono ?_); rintro e w1 ⟨rfl, hb⟩
  have HB := hid hb
  have HB1S := hid hb.size
  have HS0 := hid (HS.out.next hb)
  clear hb HS
  by_cases hlt : 12 < n
  · have hn1 : 12 = (ss.take 12).length := by rw [List.length_take]; have := HN.out; omega
    have HS1 := hid (HS0.out.take 12)
    clear HS0
    have HN1 := hid hn1
    have HLT := hid hlt
    have hltb : decide ((12 : Int) < (n : Int)) = true := decide_eq_true (by have := HLT.out; omega)
    have hcc : 12 ≤ c := by have := HLT.out; omega
    clear hn1 hlt
    go_upto_region 5 with fail
    clear hltb HLT
    have hn1 := HN1.out
    clear HN1
    have HCK := fun w (h1 : Segs w A (ss.take 12)) => hid (check_any A (ss.take 12) 12 c w hn1 fun _ => h1)
    by_cases h : chk (ss.take 12) = 0
    · have HV := fun w (h1 : Segs w A (ss.take 12)) => hid (flatten_good A (ss.take 12) 12 c w hn1 h1 h)
      have HR := fun w (h1 : Segs w A (ss.take 12)) => hid (reverse_good A (ss.take 12) 12 c w hn1 h1 h ⟨hcc, HCM.out⟩)
      have HM := fun A2 n2 c2 w (h2 : n2 = (rev (ss.take 12)).length) (h1 : Segs w A2 (rev (ss.take 12))) => hid (flatten_good A2 (rev (ss.take 12)) n2 c2 w h2 h1 (rev_chk h))
      rw [flatL_rev h] at HM
      have HLL := hid (flat_len h)
      generalize flatL (ss.take 12) = LS at HV HM HLL
      clear h hn1 HCK
      go_wp2_with fail
      (with_reducible refine (HV _ HS1.out).out.mono ?_); rintro e w2 ⟨v2, es2, rfl, ho2, he2, hb⟩
      have HB2 := hid (below_next HB.out hb)
      have HS2 := hid (HS1.out.next hb)
      have HO2 := hid ho2
      have HE2 := hid he2
      clear hb ho2 he2 HB HS1 HV
      go_wp2_with fail
      (with_reducible refine (HR _ HS2.out).out.mono ?_); rintro e w3 ⟨v3, rfl, hown, hb⟩
      obtain ⟨A3, c3, rfl, hl3, hs3⟩ := own_segs hown
      have HS3 := hid hs3
      have HB3 := hid (below_next HB2.out hb)
      have HO3 := hid (HO2.out.next hb)
      clear hb hown hs3 hl3 HB2 HO2 HS2 HR
      go_wp2_with fail
      (with_reducible refine (HM A3 _ c3 _ rfl HS3.out).out.mono ?_); rintro e w4 ⟨v4, es4, rfl, ho4, he4, hb⟩
      have HB4 := hid (below_next HB3.out hb)
      have HO4 := hid (HO3.out.next hb)
      have HNX := hid hb
      have HO3K := hid HO3.out
      have HO5 := hid ho4
      have HE4 := hid he4
      clear hb ho4 he4 HB3 HO3 HS3 HM
      have HMM := hid (show es4.length = es2.length by have := congrArg List.length HE4.out; have := congrArg List.length HE2.out; simp at *; omega)
      obtain ⟨A2, c2, hv2, hA2⟩ := HO4.out.lines
      obtain ⟨A4, c4, hv4, hA4⟩ := HO5.out.lines
      rw [HMM.out] at hv4 hA4
      have hle : es2.length ≤ 1000 := by have := congrArg List.length HE2.out; have := HLL.out.1; simp at *; omega
      rcases Nat.eq_zero_or_pos es2.length with hm0 | hm0
      · rw [hm0] at hv2 hv4
        subst hv2 hv4
        clear HO4 HO5 HE2 HE4 HLL HNX HO3K hA2 hA4 HMM hle hm0
        go_wp2_with fail
        go_loopw [49] (fun s49 wr => s49 = .int .i64 0 ∧ Hid (Below W.heap.size W wr)) (fun s49 _ => 0)
        case atStart => exact ⟨rfl, HB4⟩
        case round =>
          obtain ⟨rfl, HB⟩ := hrel
          go_wp2_with fail
          go_ret
          exact ⟨rfl, HB.out⟩
      · obtain ⟨g, rfl, -, -⟩ := hA2 hm0
        obtain ⟨g', rfl, -, -⟩ := hA4 hm0
        subst hv2
        have HPL := hid ((HO3K.out.partL hm0 (Nat.le_refl _)).next HNX.out)
        have HPM := hid (show PartM w3.heap.size w4 g' es4 from by
          have h5 := HO5.out
          rw [hv4, ← HMM.out] at h5
          exact h5.partM (by rw [HMM.out]; exact hm0))
        have HD := hid HO4.out.d
        have HEE := hid (HE4.out.trans (congrArg (List.map revLn) HE2.out.symm))
        have HLN := hid (fun e (he : e ∈ es2) => HLL.out.2 e.2 (by rw [← HE2.out]; exact List.mem_map.2 ⟨e, he, rfl⟩))
        subst hv4
        clear HO4 HO5 HE2 HE4 HLL hA2 hA4 HNX HO3K
        obtain ⟨m, hm⟩ : ∃ m, m = es2.length := ⟨_, rfl⟩
        have HMQ := hid hm
        rw [← hm] at hm0 hle
        rw [← hm] at HMM
        rw [← hm]
        clear hm
        have hmm : ((m : Int) != (m : Int)) = false := by simp
        go_wp2_with fail
        refine wp_frame (n := 84) rfl fun gA hgA => ?_
        have k3 : gA 3 = .slice (some ⟨g, 0, none⟩) m c2 := hgA 3 (by decide)
        have k7 : gA 7 = .slice (some ⟨g', 0, none⟩) m c4 := hgA 7 (by decide)
        have k47 : gA 47 = .slice (some ⟨g, 0, none⟩) m c2 := hgA 47 (by decide)
        have k48 : gA 48 = .int .i64 (m : Int) := hgA 48 (by decide)
        have k49 : gA 49 = .int .i64 0 := hgA 49 (by decide)
        rw [show ((List.range 84).map gA).toArray = #[gA 0, gA 1, gA 2, gA 3, gA 4, gA 5, gA 6, gA 7, gA 8, gA 9, gA 10, gA 11, gA 12, gA 13, gA 14, gA 15, gA 16, gA 17, gA 18, gA 19, gA 20, gA 21, gA 22, gA 23, gA 24, gA 25, gA 26, gA 27, gA 28, gA 29, gA 30, gA 31, gA 32, gA 33, gA 34, gA 35, gA 36, gA 37, gA 38, gA 39, gA 40, gA 41, gA 42, gA 43, gA 44, gA 45, gA 46, gA 47, gA 48, gA 49, gA 50, gA 51, gA 52, gA 53, gA 54, gA 55, gA 56, gA 57, gA 58, gA 59, gA 60, gA 61, gA 62, gA 63, gA 64, gA 65, gA 66, gA 67, gA 68, gA 69, gA 70, gA 71, gA 72, gA 73, gA 74, gA 75, gA 76, gA 77, gA 78, gA 79, gA 80, gA 81, gA 82, gA 83] from rfl]
        dsimp only
        rw [k3, k7, k47, k48, k49]
        clear hgA k3 k7 k47 k48 k49 hmm
        go_loopw [49] (fun s49 wr => ∃ k : Nat, k ≤ m ∧ s49 = .int .i64 k ∧ Hid (PartL w1.heap.size w3.heap.size wr g es2 k) ∧ Hid (PartM w3.heap.size wr g' es4) ∧ Hid (Below W.heap.size W wr)) (fun s49 _ => m - (intOf s49).toNat)
        case atStart => exact ⟨0, Nat.zero_le _, rfl, HPL, HPM, HB4⟩
        case round =>
          obtain ⟨k, hk, rfl, HPL, HPM, HB⟩ := hrel
          by_cases hlt : k < m
          · have hkl : k < es2.length := by rw [← HMQ.out]; exact hlt
            have hkl' : k < es4.length := by rw [HMM.out]; exact hlt
            have hq := List.getElem?_eq_getElem hkl
            have hq' := List.getElem?_eq_getElem hkl'
            have hsame : es4[k].2 = revLn es2[k].2 := by
              have := congrArg (fun l => l[k]?) HEE.out
              simpa [hq, hq'] using this
            obtain ⟨hc0, hc1, gp, cp, cs, hv, hne, hpB, hpH, hgp, hpos, hrow⟩ := HPL.out.2.2 k _ hq
            obtain ⟨hr1, hr2, hr3⟩ := hrow (Nat.le_refl _)
            have hm1 := HLN.out _ (List.getElem_mem hkl)
            have HST := hid (fun w' (hgr : wr.grownBy w' (some gp)) => HPL.out.grown HD.out hq hv hgr)
            have HMT := hid (fun w' (hgr : wr.grownBy w' (some gp)) => HPM.out.grown hgr hpH)
            have HBT := hid (fun w' (hgr : wr.grownBy w' (some gp)) => HB.out.grown hgr HB.out.size (fun j e => by cases e; exact Nat.le_trans HB1S.out hpB))
            have HC1 := hid (fun w' (hgr : wr.grownBy w' (some gp)) => (HST.out w' hgr).2.2 k _ hq)
            have HC2 := hid (fun w' (hgr : wr.grownBy w' (some gp)) => (HMT.out w' hgr).2.2 k _ hq')
            rw [hsame] at HC2
            rw [hv] at hc0 HC1
            obtain ⟨q, hQ⟩ : ∃ q, q = (es2[k]).2.ps.length := ⟨_, rfl⟩
            have HC3 := hid (show (revLn es2[k].2).ps.length = q by rw [hQ]; simp [revLn])
            rw [← hQ] at hc0 HC1 hm1 hpos hr2
            have HC4 := hid HC3.out
            clear hv hsame hrow hq hq' HPL HPM HB
            generalize hL : (es2[k]).2 = l at hc1 HC1 HC2 HC3 hQ hr3
            generalize es4[k] = e4 at HC2
            have HQ := hid hQ
            have HR1 := hid hr1
            have HR2 := hid hr2
            have HR3 := hid hr3
            have HNE := hid hne
            clear hQ hr1 hr2 hr3 hne hkl hkl' hL hpB hpH HC4
            have hg0 := hgp
            go_wp2_with fail
            (with_reducible refine (srev_any gp q cp l.ps cs _ HQ.out hpos hm1 HR1.out HR2.out HR3.out).mono ?_); rintro e w6 ⟨⟨v6, rfl⟩, hrv, hgr⟩
            have HPL6 := hid (HST.out _ hgr)
            have HPM6 := hid (HMT.out _ hgr)
            have HB6 := hid (HBT.out _ hgr)
            have hg : g < w6.heap.size := HPL6.out.2.1
            have hg' : g' < w6.heap.size := HPM6.out.2.1
            have hgp6 : gp < w6.heap.size := Nat.lt_of_lt_of_le hgp hgr.size
            obtain ⟨ha0, ha1, -⟩ := HC1.out _ hgr
            obtain ⟨hd0, hd1, gq, cq, hv', -, hgq, hrq⟩ := HC2.out _ hgr
            rw [hv', HC3.out] at hd0
            clear HST HMT HBT HC1 HC2 hc0 hc1 hgr hv' hgp HR1 HR2 HR3 HNE HC3
            obtain ⟨ps, hps⟩ : ∃ ps, ps = l.ps := ⟨_, rfl⟩
            have HRP := hid hrv
            have HRQ := hid (show Row2 w6 gq l.ps.reverse from hrq)
            have hd1' : w6.cell? ⟨g', k * 2 + 1, none⟩ = some (.bool l.cl) := hd1
            replace HQ := hid (show q = l.ps.reverse.length by rw [List.length_reverse]; exact HQ.out)
            rw [← hps] at HRP HRQ HQ
            clear hrv hrq hd1 hps
            generalize l.cl = b at ha1 hd1'
            clear l
            rename w6.cell? ⟨g, k * 2, none⟩ = _ => hc0
            rename w6.cell? ⟨g, k * 2 + 1, none⟩ = _ => hc1
            rename w6.cell? ⟨g', k * 2 + 1, none⟩ = _ => hd1
            rename gp < w6.heap.size => hgp
            go_upto_region 16 with fail
            rename ∀ (a : Act) (w : World), Code.wp _ _ _ a w → (_ : Act → World → Prop) a w => hKn
            refine wp_region_fan 24 1000 (Over w6) (by kernel_rfl) (by kernel_rfl) (Over.start w6) ?_
            simp only [List.take_succ_cons, List.take_zero, List.drop_succ_cons, List.drop_zero]
            have L1 := fun b w1 (h : Over w6 b w1) => (⟨(Below.cell (p := ⟨g, k * 2, none⟩) h hg).trans hc0, (Below.cell (p := ⟨g, k * 2 + 1, none⟩) h hg).trans hc1⟩ : _ ∧ _)
            have L2 := fun b w1 (h : Over w6 b w1) => (⟨(Below.cell (p := ⟨g', k * 2, none⟩) h hg').trans hd0, (Below.cell (p := ⟨g', k * 2 + 1, none⟩) h hg').trans hd1⟩ : _ ∧ _)
            refine WalksE.sound _ _ _ _ ?_ ((((((((((((((((((((((((((((((((((((((((((((((((((Is.start _ (n := 84) rfl).pin 0 (v := gA 0) rfl).pin 1 (v := gA 1) rfl).pin 3 (v := .slice (some ⟨g, 0, none⟩) m c2) rfl).pin 4 (v := gA 4) rfl).pin 5 (v := gA 5) rfl).pin 6 (v := gA 6) rfl).pin 7 (v := .slice (some ⟨g', 0, none⟩) m c4) rfl).pin 8 (v := gA 8) rfl).pin 9 (v := .int .i64 (k)) rfl).pin 10 (v := gA 10) rfl).pin 11 (v := gA 11) rfl).pin 12 (v := gA 12) rfl).pin 13 (v := gA 13) rfl).pin 14 (v := gA 14) rfl).pin 15 (v := gA 15) rfl).pin 16 (v := gA 16) rfl).pin 17 (v := gA 17) rfl).pin 18 (v := gA 18) rfl).pin 19 (v := gA 19) rfl).pin 20 (v := gA 20) rfl).pin 21 (v := gA 21) rfl).pin 22 (v := gA 22) rfl).pin 23 (v := gA 23) rfl).pin 24 (v := gA 24) rfl).pin 25 (v := gA 25) rfl).pin 26 (v := gA 26) rfl).pin 27 (v := gA 27) rfl).pin 28 (v := gA 28) rfl).pin 29 (v := gA 29) rfl).pin 30 (v := gA 30) rfl).pin 31 (v := gA 31) rfl).pin 32 (v := gA 32) rfl).pin 33 (v := gA 33) rfl).pin 34 (v := gA 34) rfl).pin 35 (v := gA 35) rfl).pin 36 (v := gA 36) rfl).pin 37 (v := gA 37) rfl).pin 38 (v := gA 38) rfl).pin 39 (v := gA 39) rfl).pin 40 (v := gA 40) rfl).pin 41 (v := gA 41) rfl).pin 42 (v := gA 42) rfl).pin 43 (v := gA 43) rfl).pin 44 (v := gA 44) rfl).pin 45 (v := gA 45) rfl).pin 46 (v := gA 46) rfl).pin 47 (v := .slice (some ⟨g, 0, none⟩) m c2) rfl).pin 48 (v := .int .i64 (m)) rfl).pin 49 (v := .int .i64 (k)) rfl)
            generalize (fun i => Array.getD _ i undef) = gfn
            refine walks_with fun KQ hKQ => ?_
            (refine walks_one fun K hK => ?_); refine st_pure rfl rfl (fun _ => rfl) ?_; refine hK _ ?_; clear hK K
            (refine walks_one fun K hK => ?_); refine st_pure rfl rfl (fun _ => rfl) ?_; refine hK _ ?_; clear hK K
            (refine walks_one fun K hK => ?_); refine st_pure (v := .pointer (some ⟨g, k * 2, none⟩)) rfl rfl (fun _ => (run_indexLn (a := ⟨g, 0, none⟩) (j := k) rfl rfl (by omega) (by omega)).trans (by rw [addr0, Int.toNat_natCast])) ?_; refine hK _ ?_; clear hK K
            (refine walks_one fun K hK => ?_); refine st_pure rfl rfl (fun _ => run_fld_line1 rfl) ?_; refine hK _ ?_; clear hK K
            (refine walks_one fun K hK => ?_); refine st_read rfl rfl (fun _ _ h => run_loadB rfl (L1 _ _ h).2) ?_; refine hK _ ?_; clear hK K
            (refine walks_one fun K hK => ?_); refine st_pure rfl rfl (fun _ => rfl) ?_; refine hK _ ?_; clear hK K
            (refine walks_one fun K hK => ?_); refine st_pure rfl rfl (fun _ => rfl) ?_; refine hK _ ?_; clear hK K
            (refine walks_one fun K hK => ?_); refine st_pure (v := .pointer (some ⟨g', k * 2, none⟩)) rfl rfl (fun _ => (run_indexLn (a := ⟨g', 0, none⟩) (j := k) rfl rfl (by omega) (by omega)).trans (by rw [addr0, Int.toNat_natCast])) ?_; refine hK _ ?_; clear hK K
            (refine walks_one fun K hK => ?_); refine st_pure rfl rfl (fun _ => run_fld_line1 rfl) ?_; refine hK _ ?_; clear hK K
            (refine walks_one fun K hK => ?_); refine st_read rfl rfl (fun _ _ h => run_loadB rfl (L2 _ _ h).2) ?_; refine hK _ ?_; clear hK K
            (refine walks_one fun K hK => ?_); refine st_pure (v := .bool false) rfl rfl (fun _ => run_neB rfl rfl) ?_; refine hK _ ?_; clear hK K
            (refine walks_one fun K hK => ?_); refine st_pure rfl rfl (fun _ => rfl) ?_; refine hK _ ?_; clear hK K
            (refine walks_one fun K hK => ?_); refine st_pure rfl rfl (fun _ => rfl) ?_; refine hK _ ?_; clear hK K
            (refine walks_one fun K hK => ?_); refine st_pure rfl rfl (fun _ => rfl) ?_; refine hK _ ?_; clear hK K
            (refine walks_one fun K hK => ?_); refine st_pure (v := .pointer (some ⟨g, k * 2, none⟩)) rfl rfl (fun _ => (run_indexLn (a := ⟨g, 0, none⟩) (j := k) rfl rfl (by omega) (by omega)).trans (by rw [addr0, Int.toNat_natCast])) ?_; refine hK _ ?_; clear hK K
            (refine walks_one fun K hK => ?_); refine st_pure rfl rfl (fun _ => run_fld_line0 rfl) ?_; refine hK _ ?_; clear hK K
            (refine walks_one fun K hK => ?_); refine st_read rfl rfl (fun _ _ h => run_loadSl rfl (L1 _ _ h).1) ?_; refine hK _ ?_; clear hK K
            (refine walks_one fun K hK => ?_); refine st_pure rfl rfl (fun _ => rfl) ?_; refine hK _ ?_; clear hK K
            (refine walks_one fun K hK => ?_); refine st_pure rfl rfl (fun _ => rfl) ?_; refine hK _ ?_; clear hK K
            (refine walks_one fun K hK => ?_); refine st_pure (v := .pointer (some ⟨g', k * 2, none⟩)) rfl rfl (fun _ => (run_indexLn (a := ⟨g', 0, none⟩) (j := k) rfl rfl (by omega) (by omega)).trans (by rw [addr0, Int.toNat_natCast])) ?_; refine hK _ ?_; clear hK K
            (refine walks_one fun K hK => ?_); refine st_pure rfl rfl (fun _ => run_fld_line0 rfl) ?_; refine hK _ ?_; clear hK K
            (refine walks_one fun K hK => ?_); refine st_read rfl rfl (fun _ _ h => run_loadSl rfl (L2 _ _ h).1) ?_; refine hK _ ?_; clear hK K
            (refine walks_one fun K hK => ?_); refine st_call rfl rfl (fun _ => run_call2 rfl enters_eq) (fun _ w3 h => (equalp_yes gp gq q cp cq ps.reverse w3 HQ.out hm1 (HRP.out.next hgp h) (HRQ.out.next hgq h) (Nat.lt_of_lt_of_le hgp (Below.size h)) (Nat.lt_of_lt_of_le hgq (Below.size h))).mono fun e w4 h3 => ⟨h3.1, Over.next h h3.2⟩) ?_; refine hK _ ?_; clear hK K
            (refine walks_one fun K hK => ?_); refine st_pure rfl rfl (fun _ => run_not rfl) ?_; refine hK _ ?_; clear hK K
            refine walks_end fun a9 ha9 => hKQ _ fun w1 hC => ?_
            refine sq_val (v := .bool false) ha9 rfl rfl fun a10 ha10 => ?_
            refine wpList_nil ?_
            refine hKn _ _ ?_
            obtain ⟨g9, hg9, k0, k1, k3, k4, k5, k6, k7, k8, k10, k11, k12, k13, k14, k15, k16, k17, k18, k19, k20, k21, k22, k23, k24, k25, k26, k27, k28, k29, k30, k31, k32, k33, k34, k35, k36, k37, k38, k39, k40, k41, k42, k43, k44, k45, k46, k47, k48, k49, k82⟩ : ∃ g9, Is a10 84 g9 ∧ g9 0 = gA 0 ∧ g9 1 = gA 1 ∧ g9 3 = .slice (some ⟨g, 0, none⟩) m c2 ∧ g9 4 = gA 4 ∧ g9 5 = gA 5 ∧ g9 6 = gA 6 ∧ g9 7 = .slice (some ⟨g', 0, none⟩) m c4 ∧ g9 8 = gA 8 ∧ g9 10 = gA 10 ∧ g9 11 = gA 11 ∧ g9 12 = gA 12 ∧ g9 13 = gA 13 ∧ g9 14 = gA 14 ∧ g9 15 = gA 15 ∧ g9 16 = gA 16 ∧ g9 17 = gA 17 ∧ g9 18 = gA 18 ∧ g9 19 = gA 19 ∧ g9 20 = gA 20 ∧ g9 21 = gA 21 ∧ g9 22 = gA 22 ∧ g9 23 = gA 23 ∧ g9 24 = gA 24 ∧ g9 25 = gA 25 ∧ g9 26 = gA 26 ∧ g9 27 = gA 27 ∧ g9 28 = gA 28 ∧ g9 29 = gA 29 ∧ g9 30 = gA 30 ∧ g9 31 = gA 31 ∧ g9 32 = gA 32 ∧ g9 33 = gA 33 ∧ g9 34 = gA 34 ∧ g9 35 = gA 35 ∧ g9 36 = gA 36 ∧ g9 37 = gA 37 ∧ g9 38 = gA 38 ∧ g9 39 = gA 39 ∧ g9 40 = gA 40 ∧ g9 41 = gA 41 ∧ g9 42 = gA 42 ∧ g9 43 = gA 43 ∧ g9 44 = gA 44 ∧ g9 45 = gA 45 ∧ g9 46 = gA 46 ∧ g9 47 = .slice (some ⟨g, 0, none⟩) m c2 ∧ g9 48 = .int .i64 (m) ∧ g9 49 = .int .i64 (k) ∧ g9 82 = .bool false := ⟨_, ha10, rfl, rfl, rfl, rfl, rfl, rfl, rfl, rfl, rfl, rfl, rfl, rfl, rfl, rfl, rfl, rfl, rfl, rfl, rfl, rfl, rfl, rfl, rfl, rfl, rfl, rfl, rfl, rfl, rfl, rfl, rfl, rfl, rfl, rfl, rfl, rfl, rfl, rfl, rfl, rfl, rfl, rfl, rfl, rfl, rfl, rfl, rfl, rfl, rfl⟩
            have hw := hg9.whole
            rw [show ((List.range 84).map g9).toArray = #[g9 0, g9 1, g9 2, g9 3, g9 4, g9 5, g9 6, g9 7, g9 8, g9 9, g9 10, g9 11, g9 12, g9 13, g9 14, g9 15, g9 16, g9 17, g9 18, g9 19, g9 20, g9 21, g9 22, g9 23, g9 24, g9 25, g9 26, g9 27, g9 28, g9 29, g9 30, g9 31, g9 32, g9 33, g9 34, g9 35, g9 36, g9 37, g9 38, g9 39, g9 40, g9 41, g9 42, g9 43, g9 44, g9 45, g9 46, g9 47, g9 48, g9 49, g9 50, g9 51, g9 52, g9 53, g9 54, g9 55, g9 56, g9 57, g9 58, g9 59, g9 60, g9 61, g9 62, g9 63, g9 64, g9 65, g9 66, g9 67, g9 68, g9 69, g9 70, g9 71, g9 72, g9 73, g9 74, g9 75, g9 76, g9 77, g9 78, g9 79, g9 80, g9 81, g9 82, g9 83] from rfl] at hw
            dsimp only at hw
            rw [k0, k1, k3, k4, k5, k6, k7, k8, k10, k11, k12, k13, k14, k15, k16, k17, k18, k19, k20, k21, k22, k23, k24, k25, k26, k27, k28, k29, k30, k31, k32, k33, k34, k35, k36, k37, k38, k39, k40, k41, k42, k43, k44, k45, k46, k47, k48, k49, k82] at hw
            subst hw
            clear hg9 k0 k1 k3 k4 k5 k6 k7 k8 k10 k11 k12 k13 k14 k15 k16 k17 k18 k19 k20 k21 k22 k23 k24 k25 k26 k27 k28 k29 k30 k31 k32 k33 k34 k35 k36 k37 k38 k39 k40 k41 k42 k43 k44 k45 k46 k47 k48 k49 k82
            have HB1 := hid (below_next HB6.out hC)
            have HPL1 := hid (HPL6.out.next hC)
            have HPM1 := hid (HPM6.out.next hC)
            clear ha9 ha10 hC hKQ KQ hKn L1 L2 hc0 hc1 hd0 hd1 HB6 HPL6 HPM6 HRP HRQ HQ
            go_wp2_with fail
            go_roundw
            case rel => exact ⟨k + 1, by omega, by go_num, HPL1, HPM1, HB1⟩
            case measure => simp [intOf]; omega
          · go_wp2_with fail
            go_ret
            exact ⟨rfl, HB.out⟩
    · have HV := fun w (h1 : Segs w A (ss.take 12)) => hid (flatten_bad A (ss.take 12) 12 c w hn1 (fun _ => h1) h)
      have HR := fun w (h1 : Segs w A (ss.take 12)) => hid (reverse_bad A (ss.take 12) 12 c w hn1 (fun _ => h1) h)
      have HF := fun w => hid (flatten_good none [] 0 0 w rfl (Segs.nil w none) (by decide))
      have hne : (chk (ss.take 12) != 0) = true := by simp [h]
      clear h hn1
      generalize chk (ss.take 12) = r at HV HR HCK hne
      go_wp2_with fail
      (with_reducible refine (HV _ HS1.out).out.mono ?_); rintro e w2 ⟨v2, es2, rfl, ho2, he2, hb⟩
      have HB2 := hid (below_next HB.out hb)
      have HS2 := hid (HS1.out.next hb)
      clear hb ho2 he2 HB HS1 HV
      go_wp2_with fail
      (with_reducible refine (HR _ HS2.out).out.mono ?_); rintro e w3 ⟨rfl, hb⟩
      have HB3 := hid (below_next HB2.out hb)
      have HS3 := hid (HS2.out.next hb)
      clear hb HB2 HS2 HR
      go_wp2_with fail
      (with_reducible refine (HF _).out.mono ?_); rintro e w4 ⟨v4, es4, rfl, ho4, he4, hb⟩
      have HB4 := hid (below_next HB3.out hb)
      have HS4 := hid (HS3.out.next hb)
      clear hb HB3 HS3 HF ho4 he4
      go_wp2_with fail
      (with_reducible refine (HCK _ HS4.out).out.mono ?_); rintro e w5 ⟨rfl, hb⟩
      have HB5 := hid (below_next HB4.out hb)
      clear hb HB4 HS4 HCK
      go_wp2_with fail
      go_ret
      refine ⟨?_, HB5.out⟩
      simp
  · have hn1 : n = ss.length := HN.out
    have HS1 := HS0
    clear HS0
    have HN1 := hid hn1
    have HLT := hid hlt
    have hltb : decide ((12 : Int) < (n : Int)) = false := decide_eq_false (by have := HLT.out; omega)
    clear hn1 hlt
    go_upto_region 5 with fail
    clear hltb HLT
    have hn1 := HN1.out
    clear HN1
    have HCK := fun w (h1 : Segs w A ss) => hid (check_any A ss n c w hn1 fun _ => h1)
    by_cases h : chk ss = 0
    · have HV := fun w (h1 : Segs w A ss) => hid (flatten_good A ss n c w hn1 h1 h)
      have HR := fun w (h1 : Segs w A ss) => hid (reverse_good A ss n c w hn1 h1 h ⟨by omega, HCM.out⟩)
      have HM := fun A2 n2 c2 w (h2 : n2 = (rev ss).length) (h1 : Segs w A2 (rev ss)) => hid (flatten_good A2 (rev ss) n2 c2 w h2 h1 (rev_chk h))
      rw [flatL_rev h] at HM
      have HLL := hid (flat_len h)
      generalize flatL ss = LS at HV HM HLL
      clear h hn1 HCK
      go_wp2_with fail
      (with_reducible refine (HV _ HS1.out).out.mono ?_); rintro e w2 ⟨v2, es2, rfl, ho2, he2, hb⟩
      have HB2 := hid (below_next HB.out hb)
      have HS2 := hid (HS1.out.next hb)
      have HO2 := hid ho2
      have HE2 := hid he2
      clear hb ho2 he2 HB HS1 HV
      go_wp2_with fail
      (with_reducible refine (HR _ HS2.out).out.mono ?_); rintro e w3 ⟨v3, rfl, hown, hb⟩
      obtain ⟨A3, c3, rfl, hl3, hs3⟩ := own_segs hown
      have HS3 := hid hs3
      have HB3 := hid (below_next HB2.out hb)
      have HO3 := hid (HO2.out.next hb)
      clear hb hown hs3 hl3 HB2 HO2 HS2 HR
      go_wp2_with fail
      (with_reducible refine (HM A3 _ c3 _ rfl HS3.out).out.mono ?_); rintro e w4 ⟨v4, es4, rfl, ho4, he4, hb⟩
      have HB4 := hid (below_next HB3.out hb)
      have HO4 := hid (HO3.out.next hb)
      have HNX := hid hb
      have HO3K := hid HO3.out
      have HO5 := hid ho4
      have HE4 := hid he4
      clear hb ho4 he4 HB3 HO3 HS3 HM
      have HMM := hid (show es4.length = es2.length by have := congrArg List.length HE4.out; have := congrArg List.length HE2.out; simp at *; omega)
      obtain ⟨A2, c2, hv2, hA2⟩ := HO4.out.lines
      obtain ⟨A4, c4, hv4, hA4⟩ := HO5.out.lines
      rw [HMM.out] at hv4 hA4
      have hle : es2.length ≤ 1000 := by have := congrArg List.length HE2.out; have := HLL.out.1; simp at *; omega
      rcases Nat.eq_zero_or_pos es2.length with hm0 | hm0
      · rw [hm0] at hv2 hv4
        subst hv2 hv4
        clear HO4 HO5 HE2 HE4 HLL HNX HO3K hA2 hA4 HMM hle hm0
        go_wp2_with fail
        go_loopw [49] (fun s49 wr => s49 = .int .i64 0 ∧ Hid (Below W.heap.size W wr)) (fun s49 _ => 0)
        case atStart => exact ⟨rfl, HB4⟩
        case round =>
          obtain ⟨rfl, HB⟩ := hrel
          go_wp2_with fail
          go_ret
          exact ⟨rfl, HB.out⟩
      · obtain ⟨g, rfl, -, -⟩ := hA2 hm0
        obtain ⟨g', rfl, -, -⟩ := hA4 hm0
        subst hv2
        have HPL := hid ((HO3K.out.partL hm0 (Nat.le_refl _)).next HNX.out)
        have HPM := hid (show PartM w3.heap.size w4 g' es4 from by
          have h5 := HO5.out
          rw [hv4, ← HMM.out] at h5
          exact h5.partM (by rw [HMM.out]; exact hm0))
        have HD := hid HO4.out.d
        have HEE := hid (HE4.out.trans (congrArg (List.map revLn) HE2.out.symm))
        have HLN := hid (fun e (he : e ∈ es2) => HLL.out.2 e.2 (by rw [← HE2.out]; exact List.mem_map.2 ⟨e, he, rfl⟩))
        subst hv4
        clear HO4 HO5 HE2 HE4 HLL hA2 hA4 HNX HO3K
        obtain ⟨m, hm⟩ : ∃ m, m = es2.length := ⟨_, rfl⟩
        have HMQ := hid hm
        rw [← hm] at hm0 hle
        rw [← hm] at HMM
        rw [← hm]
        clear hm
        have hmm : ((m : Int) != (m : Int)) = false := by simp
        go_wp2_with fail
        refine wp_frame (n := 84) rfl fun gA hgA => ?_
        have k3 : gA 3 = .slice (some ⟨g, 0, none⟩) m c2 := hgA 3 (by decide)
        have k7 : gA 7 = .slice (some ⟨g', 0, none⟩) m c4 := hgA 7 (by decide)
        have k47 : gA 47 = .slice (some ⟨g, 0, none⟩) m c2 := hgA 47 (by decide)
        have k48 : gA 48 = .int .i64 (m : Int) := hgA 48 (by decide)
        have k49 : gA 49 = .int .i64 0 := hgA 49 (by decide)
        rw [show ((List.range 84).map gA).toArray = #[gA 0, gA 1, gA 2, gA 3, gA 4, gA 5, gA 6, gA 7, gA 8, gA 9, gA 10, gA 11, gA 12, gA 13, gA 14, gA 15, gA 16, gA 17, gA 18, gA 19, gA 20, gA 21, gA 22, gA 23, gA 24, gA 25, gA 26, gA 27, gA 28, gA 29, gA 30, gA 31, gA 32, gA 33, gA 34, gA 35, gA 36, gA 37, gA 38, gA 39, gA 40, gA 41, gA 42, gA 43, gA 44, gA 45, gA 46, gA 47, gA 48, gA 49, gA 50, gA 51, gA 52, gA 53, gA 54, gA 55, gA 56, gA 57, gA 58, gA 59, gA 60, gA 61, gA 62, gA 63, gA 64, gA 65, gA 66, gA 67, gA 68, gA 69, gA 70, gA 71, gA 72, gA 73, gA 74, gA 75, gA 76, gA 77, gA 78, gA 79, gA 80, gA 81, gA 82, gA 83] from rfl]
        dsimp only
        rw [k3, k7, k47, k48, k49]
        clear hgA k3 k7 k47 k48 k49 hmm
        go_loopw [49] (fun s49 wr => ∃ k : Nat, k ≤ m ∧ s49 = .int .i64 k ∧ Hid (PartL w1.heap.size w3.heap.size wr g es2 k) ∧ Hid (PartM w3.heap.size wr g' es4) ∧ Hid (Below W.heap.size W wr)) (fun s49 _ => m - (intOf s49).toNat)
        case atStart => exact ⟨0, Nat.zero_le _, rfl, HPL, HPM, HB4⟩
        case round =>
          obtain ⟨k, hk, rfl, HPL, HPM, HB⟩ := hrel
          by_cases hlt : k < m
          · have hkl : k < es2.length := by rw [← HMQ.out]; exact hlt
            have hkl' : k < es4.length := by rw [HMM.out]; exact hlt
            have hq := List.getElem?_eq_getElem hkl
            have hq' := List.getElem?_eq_getElem hkl'
            have hsame : es4[k].2 = revLn es2[k].2 := by
              have := congrArg (fun l => l[k]?) HEE.out
              simpa [hq, hq'] using this
            obtain ⟨hc0, hc1, gp, cp, cs, hv, hne, hpB, hpH, hgp, hpos, hrow⟩ := HPL.out.2.2 k _ hq
            obtain ⟨hr1, hr2, hr3⟩ := hrow (Nat.le_refl _)
            have hm1 := HLN.out _ (List.getElem_mem hkl)
            have HST := hid (fun w' (hgr : wr.grownBy w' (some gp)) => HPL.out.grown HD.out hq hv hgr)
            have HMT := hid (fun w' (hgr : wr.grownBy w' (some gp)) => HPM.out.grown hgr hpH)
            have HBT := hid (fun w' (hgr : wr.grownBy w' (some gp)) => HB.out.grown hgr HB.out.size (fun j e => by cases e; exact Nat.le_trans HB1S.out hpB))
            have HC1 := hid (fun w' (hgr : wr.grownBy w' (some gp)) => (HST.out w' hgr).2.2 k _ hq)
            have HC2 := hid (fun w' (hgr : wr.grownBy w' (some gp)) => (HMT.out w' hgr).2.2 k _ hq')
            rw [hsame] at HC2
            rw [hv] at hc0 HC1
            obtain ⟨q, hQ⟩ : ∃ q, q = (es2[k]).2.ps.length := ⟨_, rfl⟩
            have HC3 := hid (show (revLn es2[k].2).ps.length = q by rw [hQ]; simp [revLn])
            rw [← hQ] at hc0 HC1 hm1 hpos hr2
            have HC4 := hid HC3.out
            clear hv hsame hrow hq hq' HPL HPM HB
            generalize hL : (es2[k]).2 = l at hc1 HC1 HC2 HC3 hQ hr3
            generalize es4[k] = e4 at HC2
            have HQ := hid hQ
            have HR1 := hid hr1
            have HR2 := hid hr2
            have HR3 := hid hr3
            have HNE := hid hne
            clear hQ hr1 hr2 hr3 hne hkl hkl' hL hpB hpH HC4
            have hg0 := hgp
            go_wp2_with fail
            (with_reducible refine (srev_any gp q cp l.ps cs _ HQ.out hpos hm1 HR1.out HR2.out HR3.out).mono ?_); rintro e w6 ⟨⟨v6, rfl⟩, hrv, hgr⟩
            have HPL6 := hid (HST.out _ hgr)
            have HPM6 := hid (HMT.out _ hgr)
            have HB6 := hid (HBT.out _ hgr)
            have hg : g < w6.heap.size := HPL6.out.2.1
            have hg' : g' < w6.heap.size := HPM6.out.2.1
            have hgp6 : gp < w6.heap.size := Nat.lt_of_lt_of_le hgp hgr.size
            obtain ⟨ha0, ha1, -⟩ := HC1.out _ hgr
            obtain ⟨hd0, hd1, gq, cq, hv', -, hgq, hrq⟩ := HC2.out _ hgr
            rw [hv', HC3.out] at hd0
            clear HST HMT HBT HC1 HC2 hc0 hc1 hgr hv' hgp HR1 HR2 HR3 HNE HC3
            obtain ⟨ps, hps⟩ : ∃ ps, ps = l.ps := ⟨_, rfl⟩
            have HRP := hid hrv
            have HRQ := hid (show Row2 w6 gq l.ps.reverse from hrq)
            have hd1' : w6.cell? ⟨g', k * 2 + 1, none⟩ = some (.bool l.cl) := hd1
            replace HQ := hid (show q = l.ps.reverse.length by rw [List.length_reverse]; exact HQ.out)
            rw [← hps] at HRP HRQ HQ
            clear hrv hrq hd1 hps
            generalize l.cl = b at ha1 hd1'
            clear l
            rename w6.cell? ⟨g, k * 2, none⟩ = _ => hc0
            rename w6.cell? ⟨g, k * 2 + 1, none⟩ = _ => hc1
            rename w6.cell? ⟨g', k * 2 + 1, none⟩ = _ => hd1
            rename gp < w6.heap.size => hgp
            go_upto_region 16 with fail
            rename ∀ (a : Act) (w : World), Code.wp _ _ _ a w → (_ : Act → World → Prop) a w => hKn
            refine wp_region_fan 24 1000 (Over w6) (by kernel_rfl) (by kernel_rfl) (Over.start w6) ?_
            simp only [List.take_succ_cons, List.take_zero, List.drop_succ_cons, List.drop_zero]
            have L1 := fun b w1 (h : Over w6 b w1) => (⟨(Below.cell (p := ⟨g, k * 2, none⟩) h hg).trans hc0, (Below.cell (p := ⟨g, k * 2 + 1, none⟩) h hg).trans hc1⟩ : _ ∧ _)
            have L2 := fun b w1 (h : Over w6 b w1) => (⟨(Below.cell (p := ⟨g', k * 2, none⟩) h hg').trans hd0, (Below.cell (p := ⟨g', k * 2 + 1, none⟩) h hg').trans hd1⟩ : _ ∧ _)
            refine WalksE.sound _ _ _ _ ?_ ((((((((((((((((((((((((((((((((((((((((((((((((((Is.start _ (n := 84) rfl).pin 0 (v := gA 0) rfl).pin 1 (v := gA 1) rfl).pin 3 (v := .slice (some ⟨g, 0, none⟩) m c2) rfl).pin 4 (v := gA 4) rfl).pin 5 (v := gA 5) rfl).pin 6 (v := gA 6) rfl).pin 7 (v := .slice (some ⟨g', 0, none⟩) m c4) rfl).pin 8 (v := gA 8) rfl).pin 9 (v := .int .i64 (k)) rfl).pin 10 (v := gA 10) rfl).pin 11 (v := gA 11) rfl).pin 12 (v := gA 12) rfl).pin 13 (v := gA 13) rfl).pin 14 (v := gA 14) rfl).pin 15 (v := gA 15) rfl).pin 16 (v := gA 16) rfl).pin 17 (v := gA 17) rfl).pin 18 (v := gA 18) rfl).pin 19 (v := gA 19) rfl).pin 20 (v := gA 20) rfl).pin 21 (v := gA 21) rfl).pin 22 (v := gA 22) rfl).pin 23 (v := gA 23) rfl).pin 24 (v := gA 24) rfl).pin 25 (v := gA 25) rfl).pin 26 (v := gA 26) rfl).pin 27 (v := gA 27) rfl).pin 28 (v := gA 28) rfl).pin 29 (v := gA 29) rfl).pin 30 (v := gA 30) rfl).pin 31 (v := gA 31) rfl).pin 32 (v := gA 32) rfl).pin 33 (v := gA 33) rfl).pin 34 (v := gA 34) rfl).pin 35 (v := gA 35) rfl).pin 36 (v := gA 36) rfl).pin 37 (v := gA 37) rfl).pin 38 (v := gA 38) rfl).pin 39 (v := gA 39) rfl).pin 40 (v := gA 40) rfl).pin 41 (v := gA 41) rfl).pin 42 (v := gA 42) rfl).pin 43 (v := gA 43) rfl).pin 44 (v := gA 44) rfl).pin 45 (v := gA 45) rfl).pin 46 (v := gA 46) rfl).pin 47 (v := .slice (some ⟨g, 0, none⟩) m c2) rfl).pin 48 (v := .int .i64 (m)) rfl).pin 49 (v := .int .i64 (k)) rfl)
            generalize (fun i => Array.getD _ i undef) = gfn
            refine walks_with fun KQ hKQ => ?_
            (refine walks_one fun K hK => ?_); refine st_pure rfl rfl (fun _ => rfl) ?_; refine hK _ ?_; clear hK K
            (refine walks_one fun K hK => ?_); refine st_pure rfl rfl (fun _ => rfl) ?_; refine hK _ ?_; clear hK K
            (refine walks_one fun K hK => ?_); refine st_pure (v := .pointer (some ⟨g, k * 2, none⟩)) rfl rfl (fun _ => (run_indexLn (a := ⟨g, 0, none⟩) (j := k) rfl rfl (by omega) (by omega)).trans (by rw [addr0, Int.toNat_natCast])) ?_; refine hK _ ?_; clear hK K
            (refine walks_one fun K hK => ?_); refine st_pure rfl rfl (fun _ => run_fld_line1 rfl) ?_; refine hK _ ?_; clear hK K
            (refine walks_one fun K hK => ?_); refine st_read rfl rfl (fun _ _ h => run_loadB rfl (L1 _ _ h).2) ?_; refine hK _ ?_; clear hK K
            (refine walks_one fun K hK => ?_); refine st_pure rfl rfl (fun _ => rfl) ?_; refine hK _ ?_; clear hK K
            (refine walks_one fun K hK => ?_); refine st_pure rfl rfl (fun _ => rfl) ?_; refine hK _ ?_; clear hK K
            (refine walks_one fun K hK => ?_); refine st_pure (v := .pointer (some ⟨g', k * 2, none⟩)) rfl rfl (fun _ => (run_indexLn (a := ⟨g', 0, none⟩) (j := k) rfl rfl (by omega) (by omega)).trans (by rw [addr0, Int.toNat_natCast])) ?_; refine hK _ ?_; clear hK K
            (refine walks_one fun K hK => ?_); refine st_pure rfl rfl (fun _ => run_fld_line1 rfl) ?_; refine hK _ ?_; clear hK K
            (refine walks_one fun K hK => ?_); refine st_read rfl rfl (fun _ _ h => run_loadB rfl (L2 _ _ h).2) ?_; refine hK _ ?_; clear hK K
            (refine walks_one fun K hK => ?_); refine st_pure (v := .bool false) rfl rfl (fun _ => run_neB rfl rfl) ?_; refine hK _ ?_; clear hK K
            (refine walks_one fun K hK => ?_); refine st_pure rfl rfl (fun _ => rfl) ?_; refine hK _ ?_; clear hK K
            (refine walks_one fun K hK => ?_); refine st_pure rfl rfl (fun _ => rfl) ?_; refine hK _ ?_; clear hK K
            (refine walks_one fun K hK => ?_); refine st_pure rfl rfl (fun _ => rfl) ?_; refine hK _ ?_; clear hK K
            (refine walks_one fun K hK => ?_); refine st_pure (v := .pointer (some ⟨g, k * 2, none⟩)) rfl rfl (fun _ => (run_indexLn (a := ⟨g, 0, none⟩) (j := k) rfl rfl (by omega) (by omega)).trans (by rw [addr0, Int.toNat_natCast])) ?_; refine hK _ ?_; clear hK K
            (refine walks_one fun K hK => ?_); refine st_pure rfl rfl (fun _ => run_fld_line0 rfl) ?_; refine hK _ ?_; clear hK K
            (refine walks_one fun K hK => ?_); refine st_read rfl rfl (fun _ _ h => run_loadSl rfl (L1 _ _ h).1) ?_; refine hK _ ?_; clear hK K
            (refine walks_one fun K hK => ?_); refine st_pure rfl rfl (fun _ => rfl) ?_; refine hK _ ?_; clear hK K
            (refine walks_one fun K hK => ?_); refine st_pure rfl rfl (fun _ => rfl) ?_; refine hK _ ?_; clear hK K
            (refine walks_one fun K hK => ?_); refine st_pure (v := .pointer (some ⟨g', k * 2, none⟩)) rfl rfl (fun _ => (run_indexLn (a := ⟨g', 0, none⟩) (j := k) rfl rfl (by omega) (by omega)).trans (by rw [addr0, Int.toNat_natCast])) ?_; refine hK _ ?_; clear hK K
            (refine walks_one fun K hK => ?_); refine st_pure rfl rfl (fun _ => run_fld_line0 rfl) ?_; refine hK _ ?_; clear hK K
            (refine walks_one fun K hK => ?_); refine st_read rfl rfl (fun _ _ h => run_loadSl rfl (L2 _ _ h).1) ?_; refine hK _ ?_; clear hK K
            (refine walks_one fun K hK => ?_); refine st_call rfl rfl (fun _ => run_call2 rfl enters_eq) (fun _ w3 h => (equalp_yes gp gq q cp cq ps.reverse w3 HQ.out hm1 (HRP.out.next hgp h) (HRQ.out.next hgq h) (Nat.lt_of_lt_of_le hgp (Below.size h)) (Nat.lt_of_lt_of_le hgq (Below.size h))).mono fun e w4 h3 => ⟨h3.1, Over.next h h3.2⟩) ?_; refine hK _ ?_; clear hK K
            (refine walks_one fun K hK => ?_); refine st_pure rfl rfl (fun _ => run_not rfl) ?_; refine hK _ ?_; clear hK K
            refine walks_end fun a9 ha9 => hKQ _ fun w1 hC => ?_
            refine sq_val (v := .bool false) ha9 rfl rfl fun a10 ha10 => ?_
            refine wpList_nil ?_
            refine hKn _ _ ?_
            obtain ⟨g9, hg9, k0, k1, k3, k4, k5, k6, k7, k8, k10, k11, k12, k13, k14, k15, k16, k17, k18, k19, k20, k21, k22, k23, k24, k25, k26, k27, k28, k29, k30, k31, k32, k33, k34, k35, k36, k37, k38, k39, k40, k41, k42, k43, k44, k45, k46, k47, k48, k49, k82⟩ : ∃ g9, Is a10 84 g9 ∧ g9 0 = gA 0 ∧ g9 1 = gA 1 ∧ g9 3 = .slice (some ⟨g, 0, none⟩) m c2 ∧ g9 4 = gA 4 ∧ g9 5 = gA 5 ∧ g9 6 = gA 6 ∧ g9 7 = .slice (some ⟨g', 0, none⟩) m c4 ∧ g9 8 = gA 8 ∧ g9 10 = gA 10 ∧ g9 11 = gA 11 ∧ g9 12 = gA 12 ∧ g9 13 = gA 13 ∧ g9 14 = gA 14 ∧ g9 15 = gA 15 ∧ g9 16 = gA 16 ∧ g9 17 = gA 17 ∧ g9 18 = gA 18 ∧ g9 19 = gA 19 ∧ g9 20 = gA 20 ∧ g9 21 = gA 21 ∧ g9 22 = gA 22 ∧ g9 23 = gA 23 ∧ g9 24 = gA 24 ∧ g9 25 = gA 25 ∧ g9 26 = gA 26 ∧ g9 27 = gA 27 ∧ g9 28 = gA 28 ∧ g9 29 = gA 29 ∧ g9 30 = gA 30 ∧ g9 31 = gA 31 ∧ g9 32 = gA 32 ∧ g9 33 = gA 33 ∧ g9 34 = gA 34 ∧ g9 35 = gA 35 ∧ g9 36 = gA 36 ∧ g9 37 = gA 37 ∧ g9 38 = gA 38 ∧ g9 39 = gA 39 ∧ g9 40 = gA 40 ∧ g9 41 = gA 41 ∧ g9 42 = gA 42 ∧ g9 43 = gA 43 ∧ g9 44 = gA 44 ∧ g9 45 = gA 45 ∧ g9 46 = gA 46 ∧ g9 47 = .slice (some ⟨g, 0, none⟩) m c2 ∧ g9 48 = .int .i64 (m) ∧ g9 49 = .int .i64 (k) ∧ g9 82 = .bool false := ⟨_, ha10, rfl, rfl, rfl, rfl, rfl, rfl, rfl, rfl, rfl, rfl, rfl, rfl, rfl, rfl, rfl, rfl, rfl, rfl, rfl, rfl, rfl, rfl, rfl, rfl, rfl, rfl, rfl, rfl, rfl, rfl, rfl, rfl, rfl, rfl, rfl, rfl, rfl, rfl, rfl, rfl, rfl, rfl, rfl, rfl, rfl, rfl, rfl, rfl, rfl⟩
            have hw := hg9.whole
            rw [show ((List.range 84).map g9).toArray = #[g9 0, g9 1, g9 2, g9 3, g9 4, g9 5, g9 6, g9 7, g9 8, g9 9, g9 10, g9 11, g9 12, g9 13, g9 14, g9 15, g9 16, g9 17, g9 18, g9 19, g9 20, g9 21, g9 22, g9 23, g9 24, g9 25, g9 26, g9 27, g9 28, g9 29, g9 30, g9 31, g9 32, g9 33, g9 34, g9 35, g9 36, g9 37, g9 38, g9 39, g9 40, g9 41, g9 42, g9 43, g9 44, g9 45, g9 46, g9 47, g9 48, g9 49, g9 50, g9 51, g9 52, g9 53, g9 54, g9 55, g9 56, g9 57, g9 58, g9 59, g9 60, g9 61, g9 62, g9 63, g9 64, g9 65, g9 66, g9 67, g9 68, g9 69, g9 70, g9 71, g9 72, g9 73, g9 74, g9 75, g9 76, g9 77, g9 78, g9 79, g9 80, g9 81, g9 82, g9 83] from rfl] at hw
            dsimp only at hw
            rw [k0, k1, k3, k4, k5, k6, k7, k8, k10, k11, k12, k13, k14, k15, k16, k17, k18, k19, k20, k21, k22, k23, k24, k25, k26, k27, k28, k29, k30, k31, k32, k33, k34, k35, k36, k37, k38, k39, k40, k41, k42, k43, k44, k45, k46, k47, k48, k49, k82] at hw
            subst hw
            clear hg9 k0 k1 k3 k4 k5 k6 k7 k8 k10 k11 k12 k13 k14 k15 k16 k17 k18 k19 k20 k21 k22 k23 k24 k25 k26 k27 k28 k29 k30 k31 k32 k33 k34 k35 k36 k37 k38 k39 k40 k41 k42 k43 k44 k45 k46 k47 k48 k49 k82
            have HB1 := hid (below_next HB6.out hC)
            have HPL1 := hid (HPL6.out.next hC)
            have HPM1 := hid (HPM6.out.next hC)
            clear ha9 ha10 hC hKQ KQ hKn L1 L2 hc0 hc1 hd0 hd1 HB6 HPL6 HPM6 HRP HRQ HQ
            go_wp2_with fail
            go_roundw
            case rel => exact ⟨k + 1, by omega, by go_num, HPL1, HPM1, HB1⟩
            case measure => simp [intOf]; omega
          · go_wp2_with fail
            go_ret
            exact ⟨rfl, HB.out⟩
    · have HV := fun w (h1 : Segs w A ss) => hid (flatten_bad A ss n c w hn1 (fun _ => h1) h)
      have HR := fun w (h1 : Segs w A ss) => hid (reverse_bad A ss n c w hn1 (fun _ => h1) h)
      have HF := fun w => hid (flatten_good none [] 0 0 w rfl (Segs.nil w none) (by decide))
      have hne : (chk ss != 0) = true := by simp [h]
      clear h hn1
      generalize chk ss = r at HV HR HCK hne
      go_wp2_with fail
      (with_reducible refine (HV _ HS1.out).out.mono ?_); rintro e w2 ⟨v2, es2, rfl, ho2, he2, hb⟩
      have HB2 := hid (below_next HB.out hb)
      have HS2 := hid (HS1.out.next hb)
      clear hb ho2 he2 HB HS1 HV
      go_wp2_with fail
      (with_reducible refine (HR _ HS2.out).out.mono ?_); rintro e w3 ⟨rfl, hb⟩
      have HB3 := hid (below_next HB2.out hb)
      have HS3 := hid (HS2.out.next hb)
      clear hb HB2 HS2 HR
      go_wp2_with fail
      (with_reducible refine (HF _).out.mono ?_); rintro e w4 ⟨v4, es4, rfl, ho4, he4, hb⟩
      have HB4 := hid (below_next HB3.out hb)
      have HS4 := hid (HS3.out.next hb)
      clear hb HB3 HS3 HF ho4 he4
      go_wp2_with fail
      (with_reducible refine (HCK _ HS4.out).out.mono ?_); rintro e w5 ⟨rfl, hb⟩
      have HB5 := hid (below_next HB4.out hb)
      clear hb HB4 HS4 HCK
      go_wp2_with fail
      go_ret
      refine ⟨?_, HB5.out⟩
      simp

set_option maxRecDepth 100000 in
theorem lifted (os : Os) (started : os.Started) (H : Type) (enc : TypeId × Value → H) :
    ReturnsInHanded {} Try.checked os 5 .any (Rows.conicReversedSpec.pre6 enc Try.prog Try.f5 Rows.conicReversedRow.domain false) (Rows.conicReversedSpec.post enc Try.prog Try.f5 false true false false) := by
  refine returnsInHanded_of_change (C := Try.checked) own started (by kernel_rfl) Try.func5
    (ChangeSpec.witness6 (enc := enc) (C := Try.checked) false ⟨#[], #[.slice none 0 0], []⟩ 8 (by kernel_rfl) (by kernel_rfl) (by kernel_rfl) (by kernel_rfl)) ?_
  intro W base args ds gs before hval0 hW hcnd _
  have hval : ∀ (j : Nat) t v, Try.f5.params[j]? = some t → args[j]? = some v → Value.okWide Try.prog W .any base t v := hval0
  have hW' := hW
  obtain ⟨p, q, hA0, hV, rfl, hfz, hnd⟩ := hW
  have hA : DataW.TrodAll enc Try.prog W 0 (fun _ => true) true Try.f5.params.toList args.toList ds p := hA0
  rw [Try.params5] at hA hval
  obtain ⟨v0, vs0, d0, ds0, p0, q0, hargs, rfl, rfl, h0, r0⟩ := trodAll_cons hA
  obtain ⟨rfl, rfl, rfl⟩ := trodAll_nil r0
  obtain rfl : args = #[v0] := by cases args; simp_all
  obtain ⟨rfl, rfl⟩ := trodVars_none hV
  have k0 := h0
  have lt0 : ∀ x ∈ p0, x.block < W.heap.size := by obtain ⟨m, hm⟩ := k0; exact DataW.trod_lt m _ _ _ hm
  obtain ⟨A0, n0, c0, ss0, rfl, hn0, hs0, hm0⟩ := open_segs Try.underlying35 Try.underlying25 (by kernel_rfl) (by kernel_rfl) (by kernel_rfl) (hval 0 35 v0 rfl rfl) h0
  have hc0 := open_cap Try.underlying35 h0
  clear hA0 hval0
  refine (rest A0 n0 c0 ss0 W hn0 hs0 hm0 hc0).mono fun e W' ⟨he, bel⟩ => ?_
  subst he
  exact ⟨_, rfl, _, _, _, [], _, [], hW', trodAll_mk1 (shut_bool Try.underlying4 _), (trodAll_cons_mk (Below.trod laidOut (by kernel_rfl) (of_decide_eq_true (by kernel_rfl)) k0 bel lt0) trodAll_mk0), rfl, bel.frame _, fun h => by cases h⟩

theorem over : Rows.conicReversedRow.holds Try.pinned (OpenSpec.ofChange Rows.conicReversedSpec) :=
  OpenClaim.holds_of_wide 5 Try.f5 rfl rfl rfl rfl rfl rfl rfl ⟨rfl, rfl, rfl, rfl, rfl⟩ rfl rfl rfl rfl rfl (by kernel_rfl) Try.func5 (by kernel_rfl)
    (of_decide_eq_true (by kernel_rfl)) (by unfold Func.isWrapper; first | (rw [if_pos (by decide +kernel)]; kernel_rfl) | (rw [if_neg (by decide +kernel)]; exact ⟨rfl, rfl⟩))
    (fun os started H enc _ => lifted os started H enc)

/-- The statement. -/
theorem proved : Rows.ConicReversedSaid := over
end Go.Proofs.Ytcdedefhofkbhaa.conicReversed
