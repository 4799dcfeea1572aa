/- Dilate, Erode, Open, Close, Edge of package morph. -/
import Derived.Test.YtldbpabnfjnpbaaMCmb
namespace Go.Proofs.Ytldbpabnfjnpbaa
open Go Go.RowKit
set_option linter.unusedVariables false
set_option linter.unusedSimpArgs false

/-- The error of a region and a distance. -/
def spE (ss : List Rn) (d : Int) : Int := if chk ss = 0 then (if 0 ≤ d ∧ d ≤ 64 then 0 else 3) else chk ss
theorem spE_ok {ss : List Rn} {d : Int} : spE ss d = 0 ↔ chk ss = 0 ∧ 0 ≤ d ∧ d ≤ 64 := by
  unfold spE
  by_cases h : chk ss = 0
  · rw [if_pos h]
    by_cases k : 0 ≤ d ∧ d ≤ 64
    · rw [if_pos k]; exact ⟨fun _ => ⟨h, k⟩, fun _ => rfl⟩
    · rw [if_neg k]; exact ⟨fun e => by omega, fun e => absurd e.2 k⟩
  · rw [if_neg h]; exact ⟨fun e => absurd e h, fun e => absurd e.1 h⟩
theorem mcheck_any (A : Option Addr) (ss : List Rn) (n c : Nat) (d : Int) (w : World) (hn : n = ss.length) (hl : n ≤ maxLen) (hs : Runs w A ss) :
    Calls Try.prog 61 #[.slice A n c, .int .i64 d] w fun e w' => e = .returned (.int .i64 (spE ss d)) ∧ Below w.heap.size w w' := by
  have HS := hid hs
  have HN := hid hn
  clear hs hn
  by_cases hc : chk ss = 0
  · have HC := hid hc
    by_cases h1 : d < 0
    · have HE := hid (show spE ss d = 3 by unfold spE; rw [if_pos hc, if_neg (by omega)])
      clear hc
      go_enter Try.func61, Try.ntmps61
      go_wp2_with fail
      (with_reducible refine (check_any A ss n c _ HN.out hl HS.out).mono ?_); rintro e w1 ⟨rfl, hb⟩
      rw [HC.out]
      have HB := hid hb
      clear hb
      go_wp2_with fail
      go_ret
      exact ⟨by rw [HE.out]; rfl, HB.out⟩
    · by_cases h2 : 64 < d
      · have HE := hid (show spE ss d = 3 by unfold spE; rw [if_pos hc, if_neg (by omega)])
        clear hc
        go_enter Try.func61, Try.ntmps61
        go_wp2_with fail
        (with_reducible refine (check_any A ss n c _ HN.out hl HS.out).mono ?_); rintro e w1 ⟨rfl, hb⟩
        rw [HC.out]
        have HB := hid hb
        clear hb
        go_wp2_with fail
        go_ret
        exact ⟨by rw [HE.out]; rfl, HB.out⟩
      · have HE := hid (show spE ss d = 0 by unfold spE; rw [if_pos hc, if_pos (by omega)])
        clear hc
        go_enter Try.func61, Try.ntmps61
        go_wp2_with fail
        (with_reducible refine (check_any A ss n c _ HN.out hl HS.out).mono ?_); rintro e w1 ⟨rfl, hb⟩
        rw [HC.out]
        have HB := hid hb
        clear hb
        go_wp2_with fail
        go_ret
        exact ⟨by rw [HE.out]; rfl, HB.out⟩
  · have HE := hid (show spE ss d = chk ss from if_neg hc)
    have hc' : (chk ss != 0) = true := by simpa using hc
    clear hc
    go_enter Try.func61, Try.ntmps61
    go_wp2_with fail
    (with_reducible refine (check_any A ss n c _ HN.out hl HS.out).mono ?_); rintro e w1 ⟨rfl, hb⟩
    have HB := hid hb
    clear hb
    go_wp2_with fail
    go_ret
    exact ⟨by rw [HE.out]; rfl, HB.out⟩

/-- A region with a property, or an error and nothing. -/
def GivesM (E : Int) (P : List Rn → Prop) (w : World) (e : Ending) (w' : World) : Prop := ∃ A c res, e = .returned (.tuple #[.slice A res.length c, .int .i64 E]) ∧ Runs w' A res ∧ Below w.heap.size w w' ∧ (E = 0 → P res) ∧ (E ≠ 0 → res = [])
theorem runs_nil (w : World) (A : Option Addr) : Runs w A [] := fun h => absurd rfl h

theorem dilate_any (A : Option Addr) (ss : List Rn) (n c : Nat) (d : Int) (w : World) (hn : n = ss.length) (hl : n ≤ maxLen) (hs : Runs w A ss) :
    Calls Try.prog 33 #[.slice A n c, .int .i64 d] w (GivesM (spE ss d) (Dil ss d) w) := by
  have HS := hid hs
  have HN := hid hn
  clear hs hn
  by_cases hE : spE ss d = 0
  · obtain ⟨hc, hd0, hd1⟩ := spE_ok.1 hE
    obtain ⟨D, rfl⟩ : ∃ D : Nat, d = D := ⟨d.toNat, by omega⟩
    have HE := hid hE
    have HC := hid hc
    rw [hE]
    clear hE hc
    go_enter Try.func33, Try.ntmps33
    go_wp2_with fail
    (with_reducible refine (mcheck_any A ss n c _ _ HN.out hl HS.out).mono ?_); rintro e w1 ⟨rfl, hb⟩
    rw [HE.out]
    have HB := hid hb
    clear hb
    go_wp2_with fail
    (with_reducible refine (widen_any A ss n c _ _ HN.out (HS.out.next HB.out) HC.out hd0 hd1).mono ?_); rintro e w2 ⟨v, rfl, ho, hb⟩
    obtain ⟨A2, c2, hv, hr⟩ := ho.is
    subst hv
    have HB2 := hid (below_next HB.out hb)
    have HR2 := hid hr
    clear ho hb hr HB
    go_wp2_with fail
    (with_reducible refine (rowsU_any A2 (wideL (D : Int) ss) _ c2 D _ rfl HR2.out (wide_all hd0 HC.out).v (by omega)).mono ?_); rintro e w3 ⟨A3, c3, res, rfl, hr, hb, hp⟩
    have HB3 := hid (below_next HB2.out hb)
    have HR3 := hid hr
    have HP := hid hp
    clear hr hb hp
    go_wp2_with fail
    go_ret2
    exact ⟨A3, c3, res, rfl, HR3.out, HB3.out, fun _ => dil_of HC.out (wide_all hd0 HC.out) HP.out, fun h => absurd rfl h⟩
  · have hE' : (spE ss d != 0) = true := by simpa using hE
    have HE := hid hE
    clear hE
    go_enter Try.func33, Try.ntmps33
    go_wp2_with fail
    (with_reducible refine (mcheck_any A ss n c _ _ HN.out hl HS.out).mono ?_); rintro e w1 ⟨rfl, hb⟩
    have HB := hid hb
    clear hb
    go_wp2_with fail
    go_ret2
    exact ⟨none, 0, [], rfl, runs_nil _ _, HB.out, fun h => absurd h HE.out, fun _ => rfl⟩

theorem erode_any (A : Option Addr) (ss : List Rn) (n c : Nat) (d : Int) (w : World) (hn : n = ss.length) (hl : n ≤ maxLen) (hs : Runs w A ss) :
    Calls Try.prog 34 #[.slice A n c, .int .i64 d] w (GivesM (spE ss d) (Ero ss d) w) := by
  have HS := hid hs
  have HN := hid hn
  clear hs hn
  by_cases hE : spE ss d = 0
  · obtain ⟨hc, hd0, hd1⟩ := spE_ok.1 hE
    obtain ⟨D, rfl⟩ : ∃ D : Nat, d = D := ⟨d.toNat, by omega⟩
    have HE := hid hE
    have HC := hid hc
    rw [hE]
    clear hE hc
    go_enter Try.func34, Try.ntmps34
    go_wp2_with fail
    (with_reducible refine (mcheck_any A ss n c _ _ HN.out hl HS.out).mono ?_); rintro e w1 ⟨rfl, hb⟩
    rw [HE.out]
    have HB := hid hb
    clear hb
    go_wp2_with fail
    (with_reducible refine (narrow_any A ss n c _ _ HN.out (HS.out.next HB.out) HC.out hd0 hd1).mono ?_); rintro e w2 ⟨v, rfl, ho, hb⟩
    obtain ⟨A2, c2, hv, hr⟩ := ho.is
    subst hv
    have HB2 := hid (below_next HB.out hb)
    have HR2 := hid hr
    clear ho hb hr HB
    go_wp2_with fail
    (with_reducible refine (rowsI_any A2 (narL (D : Int) ss) _ c2 D _ rfl HR2.out (chk_nar hd0 HC.out) (by omega)).mono ?_); rintro e w3 ⟨A3, c3, res, rfl, hr, hb, hp⟩
    have HB3 := hid (below_next HB2.out hb)
    have HR3 := hid hr
    have HP := hid hp
    clear hr hb hp
    go_wp2_with fail
    go_ret2
    exact ⟨A3, c3, res, rfl, HR3.out, HB3.out, fun _ => ero_of hd0 HC.out HP.out, fun h => absurd rfl h⟩
  · have hE' : (spE ss d != 0) = true := by simpa using hE
    have HE := hid hE
    clear hE
    go_enter Try.func34, Try.ntmps34
    go_wp2_with fail
    (with_reducible refine (mcheck_any A ss n c _ _ HN.out hl HS.out).mono ?_); rintro e w1 ⟨rfl, hb⟩
    have HB := hid hb
    clear hb
    go_wp2_with fail
    go_ret2
    exact ⟨none, 0, [], rfl, runs_nil _ _, HB.out, fun h => absurd h HE.out, fun _ => rfl⟩

/-- Ero, then Dil. -/
def OpenP (ss : List Rn) (d : Int) (res : List Rn) : Prop := ∃ s, Ero ss d s ∧ Dil s d res
theorem opened_any (A : Option Addr) (ss : List Rn) (n c : Nat) (d : Int) (w : World) (hn : n = ss.length) (hl : n ≤ maxLen) (hs : Runs w A ss) :
    Calls Try.prog 36 #[.slice A n c, .int .i64 d] w (GivesM (spE ss d) (OpenP ss d) w) := by
  have HS := hid hs
  have HN := hid hn
  clear hs hn
  go_enter Try.func36, Try.ntmps36
  go_wp2_with fail
  (with_reducible refine (erode_any A ss n c _ _ HN.out hl HS.out).mono ?_); rintro e w1 ⟨A1, c1, res, rfl, hr, hb, h1, h2⟩
  have HB := hid hb
  have HR := hid hr
  have H1 := hid h1
  have H2 := hid h2
  clear hr hb h1 h2
  by_cases hE : spE ss d = 0
  · obtain ⟨hc, hd0, hd1⟩ := spE_ok.1 hE
    have HE := hid hE
    have HV := hid (H1.out hE).v
    have HE2 := hid (show spE res d = 0 from spE_ok.2 ⟨HV.out, hd0, hd1⟩)
    rw [hE]
    clear hE hc
    go_wp2_with fail
    (with_reducible refine (dilate_any A1 res _ c1 _ _ rfl (by have := chk_len HV.out; unfold maxLen; omega) HR.out).mono ?_); rintro e w2 ⟨A2, c2, res2, rfl, hr, hb, h1, h2⟩
    rw [HE2.out]
    have HB2 := hid (below_next HB.out hb)
    have HR2 := hid hr
    have H3 := hid (h1 HE2.out)
    clear hr hb h1 h2
    go_wp2_with fail
    go_ret2
    exact ⟨A2, c2, res2, by rw [HE.out]; rfl, HR2.out, HB2.out, fun _ => ⟨res, H1.out HE.out, H3.out⟩, fun h => absurd HE.out h⟩
  · have hE' : (spE ss d != 0) = true := by simpa using hE
    have HE := hid hE
    clear hE
    go_wp2_with fail
    go_ret2
    exact ⟨none, 0, [], rfl, runs_nil _ _, HB.out, fun h => absurd h HE.out, fun _ => rfl⟩

/-- Dil, then Ero. -/
def CloseP (ss : List Rn) (d : Int) (res : List Rn) : Prop := ∃ s, Dil ss d s ∧ Ero s d res
theorem closed_any (A : Option Addr) (ss : List Rn) (n c : Nat) (d : Int) (w : World) (hn : n = ss.length) (hl : n ≤ maxLen) (hs : Runs w A ss) :
    Calls Try.prog 37 #[.slice A n c, .int .i64 d] w (GivesM (spE ss d) (CloseP ss d) w) := by
  have HS := hid hs
  have HN := hid hn
  clear hs hn
  go_enter Try.func37, Try.ntmps37
  go_wp2_with fail
  (with_reducible refine (dilate_any A ss n c _ _ HN.out hl HS.out).mono ?_); rintro e w1 ⟨A1, c1, res, rfl, hr, hb, h1, h2⟩
  have HB := hid hb
  have HR := hid hr
  have H1 := hid h1
  have H2 := hid h2
  clear hr hb h1 h2
  by_cases hE : spE ss d = 0
  · obtain ⟨hc, hd0, hd1⟩ := spE_ok.1 hE
    have HE := hid hE
    have HV := hid (H1.out hE).v
    have HE2 := hid (show spE res d = 0 from spE_ok.2 ⟨HV.out, hd0, hd1⟩)
    rw [hE]
    clear hE hc
    go_wp2_with fail
    (with_reducible refine (erode_any A1 res _ c1 _ _ rfl (by have := chk_len HV.out; unfold maxLen; omega) HR.out).mono ?_); rintro e w2 ⟨A2, c2, res2, rfl, hr, hb, h1, h2⟩
    rw [HE2.out]
    have HB2 := hid (below_next HB.out hb)
    have HR2 := hid hr
    have H3 := hid (h1 HE2.out)
    clear hr hb h1 h2
    go_wp2_with fail
    go_ret2
    exact ⟨A2, c2, res2, by rw [HE.out]; rfl, HR2.out, HB2.out, fun _ => ⟨res, H1.out HE.out, H3.out⟩, fun h => absurd HE.out h⟩
  · have hE' : (spE ss d != 0) = true := by simpa using hE
    have HE := hid hE
    clear hE
    go_wp2_with fail
    go_ret2
    exact ⟨none, 0, [], rfl, runs_nil _ _, HB.out, fun h => absurd h HE.out, fun _ => rfl⟩

/-- Dilate without Erode. -/
def EdgeP (ss : List Rn) (d : Int) (res : List Rn) : Prop := ∃ a b, Dil ss d a ∧ Ero ss d b ∧ IsOp (fun a b => a && !b) a b res
theorem edge_any (A : Option Addr) (ss : List Rn) (n c : Nat) (d : Int) (w : World) (hn : n = ss.length) (hl : n ≤ maxLen) (hs : Runs w A ss) :
    Calls Try.prog 43 #[.slice A n c, .int .i64 d] w (GivesM (spE ss d) (EdgeP ss d) w) := by
  have HS := hid hs
  have HN := hid hn
  clear hs hn
  go_enter Try.func43, Try.ntmps43
  go_wp2_with fail
  (with_reducible refine (dilate_any A ss n c _ _ HN.out hl HS.out).mono ?_); rintro e w1 ⟨A1, c1, res, rfl, hr, hb, h1, h2⟩
  have HB := hid hb
  have HR := hid hr
  have H1 := hid h1
  clear hr hb h1 h2
  by_cases hE : spE ss d = 0
  · have HE := hid hE
    have HV := hid (H1.out hE).v
    rw [hE]
    clear hE
    go_wp2_with fail
    (with_reducible refine (erode_any A ss n c _ _ HN.out hl (HS.out.next HB.out)).mono ?_); rintro e w2 ⟨A2, c2, res2, rfl, hr, hb, h1, h2⟩
    rw [HE.out]
    have HB2 := hid (below_next HB.out hb)
    have HR2 := hid hr
    have HR1 := hid (HR.out.next hb)
    have H3 := hid (h1 HE.out)
    clear hr hb h1 h2
    go_wp2_with fail
    (with_reducible refine (minus_any A1 A2 res res2 _ c1 _ c2 _ rfl rfl (by have := chk_len HV.out; unfold maxLen; omega) (by have := chk_len H3.out.v; unfold maxLen; omega) HR1.out HR2.out).mono ?_); rintro e w3 ⟨v3, res3, rfl, ho, hb, h1, -⟩
    rw [pairE_ok HV.out H3.out.v]
    obtain ⟨A3, c3, hv, hr⟩ := ho.is
    subst hv
    have HB3 := hid (below_next HB2.out hb)
    have HR3 := hid hr
    have H4 := hid (h1 (pairE_ok HV.out H3.out.v))
    clear ho hr hb h1
    go_wp2_with fail
    go_ret2
    exact ⟨A3, c3, res3, by rw [HE.out]; rfl, HR3.out, HB3.out, fun _ => ⟨res, res2, H1.out HE.out, H3.out, H4.out⟩, fun h => absurd HE.out h⟩
  · have hE' : (spE ss d != 0) = true := by simpa using hE
    have HE := hid hE
    clear hE
    go_wp2_with fail
    go_ret2
    exact ⟨none, 0, [], rfl, runs_nil _ _, HB.out, fun h => absurd h HE.out, fun _ => rfl⟩

end Go.Proofs.Ytldbpabnfjnpbaa
