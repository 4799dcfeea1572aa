/- dash.Dash. -/
import Derived.Test.YtjflgblplmgjlaaRri
import Derived.Test.YtjflgblplmgjlaaFil
namespace Go.Proofs.Ytjflgblplmgjlaa
open Go Go.RowKit Go.Shelf
attribute [local go_sem] Oper.semAt_some
set_option linter.unusedVariables false
set_option linter.unusedSimpArgs false

theorem others_of {A B : World} (h : Below A.heap.size A B) : KeepsOthers A B := ⟨h.size, fun k o hk _ => (h.block k (Array.getElem?_eq_some_iff.1 hk).1).trans hk⟩
theorem sidesP_last (qs : List P2) : ((sidesP qs).getLast?.map Sd.e).getD 0 = lenP qs := by
  unfold sidesP lenP
  cases h : qs.length - 1 with
  | zero => rfl
  | succ k => rw [List.range_succ, List.map_append]; simp [sdAt]
theorem pin_of {ps : List P2} {cl : Bool} (h : lchk [⟨ps, cl⟩] = 0) : ∀ p ∈ ps, PIn p := fun p hp => lok_all (lok_of h) _ (List.mem_singleton.2 rfl) p hp
/-- A literal of one line. -/
theorem lns_lit {X : World} {A : Option Addr} {ps : List P2} {n c : Nat} {cl : Bool} (hn : n = ps.length) (hp : Pts X A ps) (hc : n ≤ c ∧ c ≤ maxLen) :
    Lns (X.alloc (.cells #[.slice A n c, .bool cl] 27)) (some ⟨X.heap.size, 0, none⟩) [⟨ps, cl⟩] := by
  subst hn
  have hv := Var.new X #[.slice A ps.length c, .bool cl] 27 _ rfl
  refine fun _ => ⟨_, rfl, hv.lt, fun i l hi => ?_⟩
  cases i with
  | zero =>
    cases hi
    exact ⟨⟨A, c, hv.cell 0, hp.next (below_alloc (Below.refl _ _) _), hc.1, hc.2⟩, hv.cell 1⟩
  | succ i => cases hi
def spD (ps : List P2) (cl : Bool) (pat : List Int) (phase : Int) : List (Int × Int) := spans pat (-(phase % perd pat)) (lenP (walkP ps cl))
/-- Dash's answer. -/
def DashIs (ps : List P2) (cl : Bool) (pat : List Int) (phase : Int) (w : World) (e : Ending) (w' : World) : Prop :=
  (((spD ps cl pat phase).length ≤ 10000 ∧ ∃ A c es, e = .returned (.tuple #[.slice A es.length c, .int .i64 0]) ∧ LnsE w' A es ∧ es.map LE.ln = dashL (walkP ps cl) (spD ps cl pat phase) (spD ps cl pat phase).length) ∨
    (10000 < (spD ps cl pat phase).length ∧ e = .returned (.tuple #[.slice none 0 0, .int .i64 2]))) ∧ Below w.heap.size w w'

theorem resLs {fn : Func} {p q : Tmp} {tmps : Array Value} {w : World} {b1 b2 n c : Nat} {A : Option Addr} {z : Int} (h : fn.results = #[.cell p 22, .cell q 31]) (hp : tmps.getD p undef = .pointer (some ⟨b1, 0, none⟩)) (hq : tmps.getD q undef = .pointer (some ⟨b2, 0, none⟩))
    (h1 : w.cell? ⟨b1, 0, none⟩ = some (.slice A n c)) (h2 : w.cell? ⟨b2, 0, none⟩ = some (.int .i64 z)) : (results fn tmps).run Try.prog w = .ok (.tuple #[.slice A n c, .int .i64 z]) w := by
  have e1 : (loadVar 22 ⟨b1, 0, none⟩).run Try.prog w = .ok (.slice A n c) w := by simp [go_sem, *]
  have e2 : (loadVar 31 ⟨b2, 0, none⟩).run Try.prog w = .ok (.int .i64 z) w := by simp [go_sem, *]
  rw [Array.getD_eq_getD_getElem?] at hp hq
  simp [results, h, hp, hq, asAddr, e1, e2]
theorem retLs {fn : Func} {p q : Tmp} {R : Ending → World → Prop} {tmps : Array Value} {w : World} {b1 b2 n c : Nat} {A : Option Addr} {z : Int} (h : fn.results = #[.cell p 22, .cell q 31]) (hp : tmps.getD p undef = .pointer (some ⟨b1, 0, none⟩)) (hq : tmps.getD q undef = .pointer (some ⟨b2, 0, none⟩))
    (h1 : w.cell? ⟨b1, 0, none⟩ = some (.slice A n c)) (h2 : w.cell? ⟨b2, 0, none⟩ = some (.int .i64 z)) (hR : R (.returned (.tuple #[.slice A n c, .int .i64 z])) w) : bodyPost Try.prog fn R .ret ⟨tmps, []⟩ w :=
  bodyPost_ret (v := .tuple #[.slice A n c, .int .i64 z]) (resLs h hp hq h1 h2) rfl hR

theorem set12 {w : World} {b1 b2 : Nat} {c1 c2 : Value} {t1 t2 : TypeId} (h : b1 ≠ b2) (h1 : Var w b1 #[c1] t1) (h2 : Var w b2 #[c2] t2) (v1 v2 : Value) :
    ((w.setCell ⟨b1, 0, none⟩ v1).setCell ⟨b2, 0, none⟩ v2).cell? ⟨b1, 0, none⟩ = some v1 ∧ ((w.setCell ⟨b1, 0, none⟩ v1).setCell ⟨b2, 0, none⟩ v2).cell? ⟨b2, 0, none⟩ = some v2 := by
  have e1 := ((h1.set (i := 0) v1).far (p := ⟨b2, 0, none⟩) h v2).cell 0
  have e2 := ((h2.far (p := ⟨b1, 0, none⟩) (Ne.symm h) v1).set (i := 0) v2).cell 0
  exact ⟨by simpa using e1, by simpa using e2⟩
/-- The first three blocks of a call of Dash. -/
def dW (w : World) (A : Option Addr) (n c : Nat) (cl : Bool) : World := ((w.alloc (.cells #[.slice A n c, .bool cl] 27)).alloc (.cells #[.slice none 0 0] 22)).alloc (.cells #[.int .i64 0] 31)
theorem dW_is (w : World) (A : Option Addr) (n c : Nat) (cl : Bool) : Below w.heap.size w (dW w A n c cl) ∧ (dW w A n c cl).heap.size = w.heap.size + 3 ∧ Var (dW w A n c cl) w.heap.size #[.slice A n c, .bool cl] 27 ∧
    Var (dW w A n c cl) (w.heap.size + 1) #[.slice none 0 0] 22 ∧ Var (dW w A n c cl) (w.heap.size + 1 + 1) #[.int .i64 0] 31 := by
  unfold dW
  exact ⟨below_alloc (below_alloc (below_alloc (Below.refl _ w) _) _) _, by simp, ((Var.new _ _ _ _ rfl).alloc _).alloc _, (Var.new _ _ _ _ (by simp)).alloc _, Var.new _ _ _ _ (by simp)⟩
set_option maxRecDepth 100000 in
set_option maxHeartbeats 4000000 in
theorem dash_bad (A B : Option Addr) (ps : List P2) (pat : List Int) (n c m d : Nat) (cl : Bool) (phase : Int) (w : World) (hn : n = ps.length) (hc : n ≤ c ∧ c ≤ maxLen) (hs : Pts w A ps) (h : lchk [⟨ps, cl⟩] ≠ 0) :
    Calls Try.prog 11 #[.agg #[.slice A n c, .bool cl], .slice B m d, .int .i64 phase] w fun e w' => e = .returned (.tuple #[.slice none 0 0, .int .i64 (lchk [⟨ps, cl⟩])]) ∧ Below w.heap.size w w' := by
  have HS := hid hs
  have HN := hid hn
  have HCC := hid hc
  have hne : (lchk [⟨ps, cl⟩] != 0) = true := by simpa using h
  obtain ⟨r, hr⟩ : ∃ r, r = lchk [⟨ps, cl⟩] := ⟨_, rfl⟩
  have HR := hid hr
  rw [← hr] at hne ⊢
  clear hn hs h hc hr
  go_enter Try.func11, Try.ntmps11
  go_wp2_with fail
  have HW := hid (dW_is w A n c cl)
  rw [show ((w.alloc (.cells #[.slice A n c, .bool cl] 27)).alloc (.cells #[.slice none 0 0] 22)).alloc (.cells #[.int .i64 0] 31) = dW w A n c cl from rfl]
  generalize dW w A n c cl = W0 at HW ⊢
  obtain ⟨s0, hs0⟩ : ∃ s0, s0 = w.heap.size := ⟨_, rfl⟩
  have HS0 := hid hs0
  have HSZ := hid (show s0 + 1 + 1 + 1 = W0.heap.size by have := HW.out.2.1; omega)
  rw [← hs0]
  clear hs0
  rw [HSZ.out]
  (with_reducible refine (fcheck_any _ [⟨ps, cl⟩] 1 1 _ rfl (by decide) (lns_lit HN.out (HS.out.next HW.out.1) HCC.out)).mono ?_); rintro e w1 ⟨rfl, hb⟩
  have HB1 := hid (below_next (below_alloc (Below.refl W0.heap.size W0) _) hb)
  have HV1 := hid (HW.out.2.2.2.1.next HB1.out)
  have HV2 := hid (HW.out.2.2.2.2.next HB1.out)
  rw [← HS0.out] at HV1 HV2
  clear hb
  obtain ⟨x0, xf⟩ := HV1.out.read1
  obtain ⟨y0, yf⟩ := HV2.out.read1
  rw [← HR.out]
  have h12 : s0 + 1 ≠ s0 + 1 + 1 := by omega
  go_wp2_with fail
  have hbe := below_next HW.out.1 HB1.out
  exact retLs (b1 := s0 + 1) (b2 := s0 + 1 + 1) (A := none) (n := 0) (c := 0) (z := r) rfl rfl rfl (set12 h12 HV1.out HV2.out _ _).1 (set12 h12 HV1.out HV2.out _ _).2 ⟨rfl, (hbe.setCell (p := ⟨s0 + 1, 0, none⟩) (by show w.heap.size ≤ s0 + 1; have := HS0.out; omega) _).setCell (p := ⟨s0 + 1 + 1, 0, none⟩) (by show w.heap.size ≤ s0 + 1 + 1; have := HS0.out; omega) _⟩
set_option maxRecDepth 100000 in
set_option maxHeartbeats 4000000 in
theorem dash_pat (A B : Option Addr) (ps : List P2) (pat : List Int) (n c m d : Nat) (cl : Bool) (phase : Int) (w : World) (hn : n = ps.length) (hc : n ≤ c ∧ c ≤ maxLen) (hs : Pts w A ps) (h0 : lchk [⟨ps, cl⟩] = 0) (hm : m = pat.length) (hml : m ≤ maxLen) (hp : IntsA w B pat) (h : pchk pat phase ≠ 0) :
    Calls Try.prog 11 #[.agg #[.slice A n c, .bool cl], .slice B m d, .int .i64 phase] w fun e w' => e = .returned (.tuple #[.slice none 0 0, .int .i64 (pchk pat phase)]) ∧ Below w.heap.size w w' := by
  have HS := hid hs
  have HN := hid hn
  have HCC := hid hc
  have hne : (pchk pat phase != 0) = true := by simpa using h
  obtain ⟨r, hr⟩ : ∃ r, r = pchk pat phase := ⟨_, rfl⟩
  have HR := hid hr
  rw [← hr] at hne ⊢
  have H0 := hid h0
  have HM := hid hm
  have HML := hid hml
  have HP := hid hp
  clear hn hs h hc hr h0 hm hml hp
  go_enter Try.func11, Try.ntmps11
  go_wp2_with fail
  have HW := hid (dW_is w A n c cl)
  rw [show ((w.alloc (.cells #[.slice A n c, .bool cl] 27)).alloc (.cells #[.slice none 0 0] 22)).alloc (.cells #[.int .i64 0] 31) = dW w A n c cl from rfl]
  generalize dW w A n c cl = W0 at HW ⊢
  obtain ⟨s0, hs0⟩ : ∃ s0, s0 = w.heap.size := ⟨_, rfl⟩
  have HS0 := hid hs0
  have HSZ := hid (show s0 + 1 + 1 + 1 = W0.heap.size by have := HW.out.2.1; omega)
  rw [← hs0]
  clear hs0
  rw [HSZ.out]
  (with_reducible refine (fcheck_any _ [⟨ps, cl⟩] 1 1 _ rfl (by decide) (lns_lit HN.out (HS.out.next HW.out.1) HCC.out)).mono ?_); rintro e w1 ⟨rfl, hb⟩
  have HB1 := hid (below_next (below_alloc (Below.refl W0.heap.size W0) _) hb)
  have HV1 := hid (HW.out.2.2.2.1.next HB1.out)
  have HV2 := hid (HW.out.2.2.2.2.next HB1.out)
  rw [← HS0.out] at HV1 HV2
  clear hb
  rw [H0.out]
  go_wp2_with fail
  (with_reducible refine (pchk_any B pat phase m d _ HM.out HML.out (HP.out.next (below_next HW.out.1 HB1.out))).mono ?_); rintro e w2 ⟨rfl, hb⟩
  rw [← HR.out]
  replace HB1 := hid (below_next HB1.out hb)
  replace HV1 := hid (HV1.out.next hb)
  replace HV2 := hid (HV2.out.next hb)
  clear hb
  obtain ⟨x0, xf⟩ := HV1.out.read1
  obtain ⟨y0, yf⟩ := HV2.out.read1
  have h12 : s0 + 1 ≠ s0 + 1 + 1 := by omega
  go_wp2_with fail
  have hbe := below_next HW.out.1 HB1.out
  exact retLs (b1 := s0 + 1) (b2 := s0 + 1 + 1) (A := none) (n := 0) (c := 0) (z := r) rfl rfl rfl (set12 h12 HV1.out HV2.out _ _).1 (set12 h12 HV1.out HV2.out _ _).2 ⟨rfl, (hbe.setCell (p := ⟨s0 + 1, 0, none⟩) (by show w.heap.size ≤ s0 + 1; have := HS0.out; omega) _).setCell (p := ⟨s0 + 1 + 1, 0, none⟩) (by show w.heap.size ≤ s0 + 1 + 1; have := HS0.out; omega) _⟩
end Go.Proofs.Ytjflgblplmgjlaa
