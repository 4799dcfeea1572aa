/- Rectangle of package region. -/
import Derived.Test.YtijkoaggcmgjiaaChk
import Derived.Test.YtijkoaggcmgjiaaOwn
namespace Go.Proofs.Ytijkoaggcmgjiaa
open Go Go.RowKit
set_option linter.unusedVariables false
set_option linter.unusedSimpArgs false

theorem bnds4 (a b c d : Int) (w : World) (r : Bool) (hr : bnds [a, b, c, d] = r) :
    Calls Try.prog 95 #[.slice (some ⟨w.heap.size, 0, none⟩) 4 4] (w.alloc (.cells #[.int .i64 a, .int .i64 b, .int .i64 c, .int .i64 d] 3)) fun e w' => e = .returned (.bool r) ∧ Below w.heap.size w w' := by
  subst hr
  refine (bnds_any [a, b, c, d] w.heap.size 0 4 4 _ rfl (by decide) (Var.new w _ 3 _ rfl).lies4).mono ?_
  rintro e w' ⟨rfl, rfl⟩
  exact ⟨rfl, below_alloc (Below.refl _ w) _⟩
theorem bnds4_iff {a b c d : Int} : bnds [a, b, c, d] = true ↔ (-8192 ≤ a ∧ a ≤ 8192) ∧ (-8192 ≤ b ∧ b ≤ 8192) ∧ (-8192 ≤ c ∧ c ≤ 8192) ∧ (-8192 ≤ d ∧ d ≤ 8192) := by
  simp [bnds, inB]
/-- The error of Rectangle; its rows. -/
def rectE (x0 y0 x1 y1 : Int) : Int := if bnds [x0, y0, x1, y1] = true then (if x1 < x0 ∨ y1 < y0 then 18 else 0) else 3
def rows (y0 x0 x1 : Int) (k : Nat) : List Rn := (List.range k).map fun i => ⟨y0 + (i : Nat), x0, x1⟩
theorem rows_succ (y0 x0 x1 : Int) (k : Nat) : rows y0 x0 x1 (k + 1) = rows y0 x0 x1 k ++ [⟨y0 + (k : Nat), x0, x1⟩] := by unfold rows; rw [List.range_succ]; simp
theorem rows_length (y0 x0 x1 : Int) (k : Nat) : (rows y0 x0 x1 k).length = k := by simp [rows]
def rectR (x0 y0 x1 y1 : Int) : List Rn := if rectE x0 y0 x1 y1 = 0 ∧ x0 ≠ x1 then rows y0 x0 x1 (y1 - y0).toNat else []
/-- A region in a new row, and an error. -/
def GivesR (E : Int) (rs : List Rn) (w : World) (e : Ending) (w' : World) : Prop := ∃ v, e = .returned (.tuple #[v, .int .i64 E]) ∧ OwnR w' w.heap.size v rs ∧ Below w.heap.size w w'
theorem run_makeRn' (w : World) (n : Nat) (hn : n ≤ 1000000000) :
    ∃ w', (∀ (ρ : Operand → Value) (dst : Option Tmp) (ty : TypeId) (pos : String) (af : Array Edge) (x y : Operand), ρ x = .int .i64 0 → ρ y = .int .i64 n →
      (execOp ρ { dst := dst, op := .makeSlice 25 x y, type := ty, pos := pos, after := af, guard := none }).run Try.prog w = .ok (.value (.slice (some ⟨w.heap.size, 0, none⟩) 0 n)) w') ∧
      OwnR w' w.heap.size (.slice (some ⟨w.heap.size, 0, none⟩) 0 n) [] ∧ Below w.heap.size w w' := by
  obtain ⟨i0, hi, hz0, hz1, hz2⟩ := info_parts infoRn
  obtain ⟨w', hr, ho, hg⟩ := run_make_own (P := Try.prog) w w.heap.size 25 47 i0 _ 3 Try.underlying25 hi hz0 hz1 .i64 .i64 n (by rw [hz2]; omega) (by unfold maxLen; omega) (Nat.le_refl _)
  exact ⟨w', fun ρ dst ty pos af x y hx hy => by simp [execOp, hx, hy, hr, Result.andThen], ho, (Below.refl _ w).grown hg (Nat.le_refl _) (fun k hk => by cases hk)⟩

set_option maxHeartbeats 2000000 in
theorem rect_range (x0 y0 x1 y1 : Int) (w : World) (h : bnds [x0, y0, x1, y1] = false) :
    Calls Try.prog 51 #[.int .i64 x0, .int .i64 y0, .int .i64 x1, .int .i64 y1] w (GivesR 3 [] w) := by
  have H := hid h
  clear h
  go_enter Try.func51, Try.ntmps51
  go_wp2_with fail
  (with_reducible refine (bnds4 x0 y0 x1 y1 w false H.out).mono ?_); rintro e w1 ⟨rfl, hb⟩
  have HB := hid hb
  clear hb
  go_wp2_with fail
  go_ret2
  exact ⟨_, rfl, OwnR.nil _ _, HB.out⟩
set_option maxHeartbeats 2000000 in
theorem rect_order (x0 y0 x1 y1 : Int) (w : World) (h : bnds [x0, y0, x1, y1] = true) (hc : x1 < x0 ∨ y1 < y0) :
    Calls Try.prog 51 #[.int .i64 x0, .int .i64 y0, .int .i64 x1, .int .i64 y1] w (GivesR 18 [] w) := by
  have H := hid h
  clear h
  by_cases h1 : x1 < x0
  · clear hc
    go_enter Try.func51, Try.ntmps51
    go_wp2_with fail
    (with_reducible refine (bnds4 x0 y0 x1 y1 w true H.out).mono ?_); rintro e w1 ⟨rfl, hb⟩
    have HB := hid hb
    clear hb
    go_wp2_with fail
    go_ret2
    exact ⟨_, rfl, OwnR.nil _ _, HB.out⟩
  · have h2 : y1 < y0 := by omega
    clear hc
    go_enter Try.func51, Try.ntmps51
    go_wp2_with fail
    (with_reducible refine (bnds4 x0 y0 x1 y1 w true H.out).mono ?_); rintro e w1 ⟨rfl, hb⟩
    have HB := hid hb
    clear hb
    go_wp2_with fail
    go_ret2
    exact ⟨_, rfl, OwnR.nil _ _, HB.out⟩
set_option maxHeartbeats 2000000 in
theorem rect_none (x0 y0 y1 : Int) (w : World) (h : bnds [x0, y0, x0, y1] = true) (hc : y0 ≤ y1) :
    Calls Try.prog 51 #[.int .i64 x0, .int .i64 y0, .int .i64 x0, .int .i64 y1] w (GivesR 0 [] w) := by
  have H := hid h
  clear h
  have h2 : ¬ y1 < y0 := by omega
  go_enter Try.func51, Try.ntmps51
  go_wp2_with fail
  (with_reducible refine (bnds4 x0 y0 x0 y1 w true H.out).mono ?_); rintro e w1 ⟨rfl, hb⟩
  have HB := hid hb
  clear hb
  go_wp2_with fail
  go_ret2
  exact ⟨_, rfl, OwnR.nil _ _, HB.out⟩
def RL (w W : World) (x0 y0 x1 : Int) (D : Nat) (s10 s11 : Value) (wr : World) : Prop := ∃ (k : Nat) (v : Value), s10 = v ∧ k ≤ D ∧ s11 = .int .i64 (y0 + k) ∧ Hid (OwnR wr w.heap.size v (rows y0 x0 x1 k) ∧ Below w.heap.size w wr)
set_option maxHeartbeats 4000000 in
theorem rect_rows (x0 y0 x1 y1 : Int) (w : World) (h : bnds [x0, y0, x1, y1] = true) (hc : y0 ≤ y1) (hx : x0 < x1) :
    Calls Try.prog 51 #[.int .i64 x0, .int .i64 y0, .int .i64 x1, .int .i64 y1] w (GivesR 0 (rows y0 x0 x1 (y1 - y0).toNat) w) := by
  have H := hid h
  obtain ⟨b1, b2, b3, b4⟩ := bnds4_iff.1 h
  clear h
  obtain ⟨D, hD⟩ : ∃ D : Nat, D = (y1 - y0).toNat := ⟨_, rfl⟩
  rw [← hD]
  have hD1 : y1 - y0 ≤ D ∧ (D : Int) ≤ y1 - y0 := by omega
  clear hD
  have h2 : ¬ y1 < y0 := by omega
  have h3 : ¬ x1 < x0 := by omega
  have h4 : (x0 == x1) = false := by simpa using by omega
  go_enter Try.func51, Try.ntmps51
  go_wp2_with fail
  (with_reducible refine (bnds4 x0 y0 x1 y1 w true H.out).mono ?_); rintro e W ⟨rfl, hb⟩
  have HB := hid hb
  clear hb
  go_upto_region 7 with fail
  obtain ⟨W2, hmk, ho2, hb2⟩ := run_makeRn' W D (by omega)
  have HM := hid hmk
  have HO := hid (ho2.mono HB.out.size)
  have HB2 := hid (below_next HB.out hb2)
  have hD2 : D ≤ 16384 := by omega
  clear ho2 hb2 hmk HB
  go_upto_region 7 with fail
  rename_i Kn hKn
  refine wp_region_lit ?_
  refine sq_start (n := 48) rfl fun a0 hs0 => ?_
  have ha0 := (((((((((((((((((((((((((((((((hs0.pin 0 (v := .int .i64 x0) rfl).pin 1 (v := .int .i64 y0) rfl).pin 2 (v := .int .i64 x1) rfl).pin 3 (v := .int .i64 y1) rfl).pin 4 (v := undef) rfl).pin 5 (v := undef) rfl).pin 6 (v := undef) rfl).pin 7 (v := undef) rfl).pin 8 (v := .slice none 0 0) rfl).pin 9 (v := .int .i64 0) rfl).pin 12 (v := .int .i64 x0) rfl).pin 13 (v := .int .i64 y0) rfl).pin 14 (v := .int .i64 x1) rfl).pin 15 (v := .int .i64 y1) rfl).pin 16 (v := .slice (some ⟨w.heap.size, 0, none⟩) 4 4) rfl).pin 17 (v := .bool true) rfl).pin 18 (v := .bool false) rfl).pin 19 (v := .int .i64 x0) rfl).pin 20 (v := .int .i64 x1) rfl).pin 21 (v := .bool (decide (x1 < x0))) rfl).pin 22 (v := .bool (decide (x1 < x0))) rfl).pin 23 (v := .int .i64 y0) rfl).pin 24 (v := .int .i64 y1) rfl).pin 25 (v := .bool (decide (y1 < y0))) rfl).pin 26 (v := .bool (decide (x1 < x0) || decide (y1 < y0))) rfl).pin 27 (v := .int .i64 x0) rfl).pin 28 (v := .int .i64 x1) rfl).pin 29 (v := .bool false) rfl).pin 47 (v := undef) rfl).pin 34 (v := undef) rfl).pin 11 (v := undef) rfl)
  clear hs0
  generalize (fun i => Array.getD _ i undef) = g0 at ha0
  refine sq_val (v := .int .i64 y1) ha0 rfl (rfl) fun a1 ha1 => ?_
  refine sq_val (v := .int .i64 y0) ha1 rfl (rfl) fun a2 ha2 => ?_
  refine sq_val (v := .int .i64 (D : Int)) ha2 rfl ((run_sub rfl rfl (by unfold Rg; omega)).trans (int_is (by omega))) fun a3 ha3 => ?_
  refine sq_val (v := .slice (some ⟨W.heap.size, 0, none⟩) 0 D) (w' := W2) ha3 rfl (HM.out _ _ _ _ _ _ _ rfl rfl) fun a4 ha4 => ?_
  refine sq_val (v := .slice (some ⟨W.heap.size, 0, none⟩) 0 D) ha4 rfl (rfl) fun a5 ha5 => ?_
  refine wpList_nil ?_
  refine hKn _ _ ?_
  obtain ⟨g9, hg9, k0, k1, k2, k3, k4, k5, k6, k7, k8, k9, k12, k13, k14, k15, k16, k17, k18, k19, k20, k21, k22, k23, k24, k25, k26, k27, k28, k29, k47, k34, k11, k10, k30, k31, k32, k33⟩ : ∃ g9, Is a5 48 g9 ∧ g9 0 = .int .i64 x0 ∧ g9 1 = .int .i64 y0 ∧ g9 2 = .int .i64 x1 ∧ g9 3 = .int .i64 y1 ∧ g9 4 = undef ∧ g9 5 = undef ∧ g9 6 = undef ∧ g9 7 = undef ∧ g9 8 = .slice none 0 0 ∧ g9 9 = .int .i64 0 ∧ g9 12 = .int .i64 x0 ∧ g9 13 = .int .i64 y0 ∧ g9 14 = .int .i64 x1 ∧ g9 15 = .int .i64 y1 ∧ g9 16 = .slice (some ⟨w.heap.size, 0, none⟩) 4 4 ∧ g9 17 = .bool true ∧ g9 18 = .bool false ∧ g9 19 = .int .i64 x0 ∧ g9 20 = .int .i64 x1 ∧ g9 21 = .bool (decide (x1 < x0)) ∧ g9 22 = .bool (decide (x1 < x0)) ∧ g9 23 = .int .i64 y0 ∧ g9 24 = .int .i64 y1 ∧ g9 25 = .bool (decide (y1 < y0)) ∧ g9 26 = .bool (decide (x1 < x0) || decide (y1 < y0)) ∧ g9 27 = .int .i64 x0 ∧ g9 28 = .int .i64 x1 ∧ g9 29 = .bool false ∧ g9 47 = undef ∧ g9 34 = undef ∧ g9 11 = undef ∧ g9 10 = .slice (some ⟨W.heap.size, 0, none⟩) 0 D ∧ g9 30 = .int .i64 y1 ∧ g9 31 = .int .i64 y0 ∧ g9 32 = .int .i64 (D : Int) ∧ g9 33 = .slice (some ⟨W.heap.size, 0, none⟩) 0 D := ⟨_, ha5, rfl, rfl, rfl, rfl, rfl, rfl, rfl, rfl, rfl, rfl, rfl, rfl, rfl, rfl, rfl, rfl, rfl, rfl, rfl, rfl, rfl, rfl, rfl, rfl, rfl, rfl, rfl, rfl, rfl, rfl, rfl, rfl, rfl, rfl, rfl, rfl⟩
  have hw := hg9.whole
  rw [show ((List.range 48).map g9).toArray = #[g9 0, g9 1, g9 2, g9 3, g9 4, g9 5, g9 6, g9 7, g9 8, g9 9, g9 10, g9 11, g9 12, g9 13, g9 14, g9 15, g9 16, g9 17, g9 18, g9 19, g9 20, g9 21, g9 22, g9 23, g9 24, g9 25, g9 26, g9 27, g9 28, g9 29, g9 30, g9 31, g9 32, g9 33, g9 34, g9 35, g9 36, g9 37, g9 38, g9 39, g9 40, g9 41, g9 42, g9 43, g9 44, g9 45, g9 46, g9 47] from rfl] at hw
  rw [k0, k1, k2, k3, k4, k5, k6, k7, k8, k9, k12, k13, k14, k15, k16, k17, k18, k19, k20, k21, k22, k23, k24, k25, k26, k27, k28, k29, k47, k34, k11, k10, k30, k31, k32, k33] at hw
  subst hw
  clear hg9 k0 k1 k2 k3 k4 k5 k6 k7 k8 k9 k12 k13 k14 k15 k16 k17 k18 k19 k20 k21 k22 k23 k24 k25 k26 k27 k28 k29 k47 k34 k11 k10 k30 k31 k32 k33
  clear ha0 ha1 ha2 ha3 ha4 ha5 hKn Kn
  go_wp2_with fail
  go_loopw [10, 11] (fun s10 s11 wr => RL w W x0 y0 x1 D s10 s11 wr) (fun _ s11 _ => (y1 - intOf s11).toNat)
  case atStart => exact ⟨0, _, rfl, Nat.zero_le _, by simp, hid ⟨HO.out, HB2.out⟩⟩
  case round =>
    obtain ⟨k, v, hv, hkD, rfl, HL⟩ := hrel
    have hv' := hv.symm
    clear hv
    subst hv'
    by_cases hlt : k < D
    · obtain ⟨v', w3, h1, h2, h3⟩ := append_rn (ty := 25) (s := ⟨y0 + (k : Int), x0, x1⟩) HL.out.2.size HL.out.1 (by rw [rows_length]; omega)
      have HO3 := hid (show OwnR w3 w.heap.size v' (rows y0 x0 x1 (k + 1)) by rw [rows_succ]; exact h2)
      have HB3 := hid (HL.out.2.grown h3.g HL.out.2.size (fun j hj => (HL.out.1.ge j hj).1))
      have H1 := hid h1
      have hlt1 : y0 + (k : Int) < y1 := by omega
      clear h1 h2 h3
      go_upto_region 11 with fail
      rename_i Kn hKn
      refine wp_region_lit ?_
      refine sq_start (n := 48) rfl fun a0 hs0 => ?_
      have ha0 := ((((((((((((((((((((((((((((((((((((hs0.pin 0 (v := .int .i64 x0) rfl).pin 1 (v := .int .i64 y0) rfl).pin 2 (v := .int .i64 x1) rfl).pin 3 (v := .int .i64 y1) rfl).pin 4 (v := undef) rfl).pin 5 (v := undef) rfl).pin 6 (v := undef) rfl).pin 7 (v := undef) rfl).pin 8 (v := .slice none 0 0) rfl).pin 9 (v := .int .i64 0) rfl).pin 12 (v := .int .i64 x0) rfl).pin 13 (v := .int .i64 y0) rfl).pin 14 (v := .int .i64 x1) rfl).pin 15 (v := .int .i64 y1) rfl).pin 16 (v := .slice (some ⟨w.heap.size, 0, none⟩) 4 4) rfl).pin 17 (v := .bool true) rfl).pin 18 (v := .bool false) rfl).pin 19 (v := .int .i64 x0) rfl).pin 20 (v := .int .i64 x1) rfl).pin 21 (v := .bool (decide (x1 < x0))) rfl).pin 22 (v := .bool (decide (x1 < x0))) rfl).pin 23 (v := .int .i64 y0) rfl).pin 24 (v := .int .i64 y1) rfl).pin 25 (v := .bool (decide (y1 < y0))) rfl).pin 26 (v := .bool (decide (x1 < x0) || decide (y1 < y0))) rfl).pin 27 (v := .int .i64 x0) rfl).pin 28 (v := .int .i64 x1) rfl).pin 29 (v := .bool false) rfl).pin 47 (v := undef) rfl).pin 10 (v := v) rfl).pin 11 (v := .int .i64 (y0 + (k : Int))) rfl).pin 30 (v := .int .i64 y1) rfl).pin 31 (v := .int .i64 y0) rfl).pin 32 (v := .int .i64 (D : Int)) rfl).pin 33 (v := .slice (some ⟨W.heap.size, 0, none⟩) 0 D) rfl).pin 34 (v := .int .i64 y0) rfl)
      clear hs0
      generalize (fun i => Array.getD _ i undef) = g0 at ha0
      refine sq_val (v := v) ha0 rfl (rfl) fun a1 ha1 => ?_
      refine sq_val (v := .int .i64 (y0 + (k : Int))) ha1 rfl (rfl) fun a2 ha2 => ?_
      refine sq_val (v := .int .i64 x0) ha2 rfl (rfl) fun a3 ha3 => ?_
      refine sq_val (v := .int .i64 x1) ha3 rfl (rfl) fun a4 ha4 => ?_
      refine sq_val (v := rn (⟨y0 + (k : Int), x0, x1⟩)) ha4 rfl (run_buildRn rfl rfl rfl) fun a5 ha5 => ?_
      refine sq_val (v := .slice (some ⟨wr.heap.size, 0, none⟩) 1 1) ha5 rfl (run_litRn rfl) fun a6 ha6 => ?_
      refine sq_val (v := v') ha6 rfl (run_append rfl rfl H1.out) fun a7 ha7 => ?_
      refine sq_val (v := v') ha7 rfl (rfl) fun a8 ha8 => ?_
      refine wpList_nil ?_
      refine hKn _ _ ?_
      obtain ⟨g9, hg9, k0, k1, k2, k3, k4, k5, k6, k7, k8, k9, k12, k13, k14, k15, k16, k17, k18, k19, k20, k21, k22, k23, k24, k25, k26, k27, k28, k29, k47, k10, k11, k30, k31, k32, k33, k34⟩ : ∃ g9, Is a8 48 g9 ∧ g9 0 = .int .i64 x0 ∧ g9 1 = .int .i64 y0 ∧ g9 2 = .int .i64 x1 ∧ g9 3 = .int .i64 y1 ∧ g9 4 = undef ∧ g9 5 = undef ∧ g9 6 = undef ∧ g9 7 = undef ∧ g9 8 = .slice none 0 0 ∧ g9 9 = .int .i64 0 ∧ g9 12 = .int .i64 x0 ∧ g9 13 = .int .i64 y0 ∧ g9 14 = .int .i64 x1 ∧ g9 15 = .int .i64 y1 ∧ g9 16 = .slice (some ⟨w.heap.size, 0, none⟩) 4 4 ∧ g9 17 = .bool true ∧ g9 18 = .bool false ∧ g9 19 = .int .i64 x0 ∧ g9 20 = .int .i64 x1 ∧ g9 21 = .bool (decide (x1 < x0)) ∧ g9 22 = .bool (decide (x1 < x0)) ∧ g9 23 = .int .i64 y0 ∧ g9 24 = .int .i64 y1 ∧ g9 25 = .bool (decide (y1 < y0)) ∧ g9 26 = .bool (decide (x1 < x0) || decide (y1 < y0)) ∧ g9 27 = .int .i64 x0 ∧ g9 28 = .int .i64 x1 ∧ g9 29 = .bool false ∧ g9 47 = undef ∧ g9 10 = v' ∧ g9 11 = .int .i64 (y0 + (k : Int)) ∧ g9 30 = .int .i64 y1 ∧ g9 31 = .int .i64 y0 ∧ g9 32 = .int .i64 (D : Int) ∧ g9 33 = .slice (some ⟨W.heap.size, 0, none⟩) 0 D ∧ g9 34 = .int .i64 y0 := ⟨_, ha8, rfl, rfl, rfl, rfl, rfl, rfl, rfl, rfl, rfl, rfl, rfl, rfl, rfl, rfl, rfl, rfl, rfl, rfl, rfl, rfl, rfl, rfl, rfl, rfl, rfl, rfl, rfl, rfl, rfl, rfl, rfl, rfl, rfl, rfl, rfl, rfl⟩
      have hw := hg9.whole
      rw [show ((List.range 48).map g9).toArray = #[g9 0, g9 1, g9 2, g9 3, g9 4, g9 5, g9 6, g9 7, g9 8, g9 9, g9 10, g9 11, g9 12, g9 13, g9 14, g9 15, g9 16, g9 17, g9 18, g9 19, g9 20, g9 21, g9 22, g9 23, g9 24, g9 25, g9 26, g9 27, g9 28, g9 29, g9 30, g9 31, g9 32, g9 33, g9 34, g9 35, g9 36, g9 37, g9 38, g9 39, g9 40, g9 41, g9 42, g9 43, g9 44, g9 45, g9 46, g9 47] from rfl] at hw
      rw [k0, k1, k2, k3, k4, k5, k6, k7, k8, k9, k12, k13, k14, k15, k16, k17, k18, k19, k20, k21, k22, k23, k24, k25, k26, k27, k28, k29, k47, k10, k11, k30, k31, k32, k33, k34] at hw
      subst hw
      clear hg9 k0 k1 k2 k3 k4 k5 k6 k7 k8 k9 k12 k13 k14 k15 k16 k17 k18 k19 k20 k21 k22 k23 k24 k25 k26 k27 k28 k29 k47 k10 k11 k30 k31 k32 k33 k34
      clear ha0 ha1 ha2 ha3 ha4 ha5 ha6 ha7 ha8 hKn Kn
      go_wp2_with fail
      go_roundw
      case rel => exact ⟨k + 1, v', rfl, by omega, by simp; omega, HO3, HB3⟩
      case measure => simp [intOf]; omega
    · have hge : ¬ y0 + (k : Int) < y1 := by omega
      have HE := hid (show k = D by omega)
      clear hlt
      go_wp2_with fail
      go_ret2
      exact ⟨v, rfl, by rw [← HE.out]; exact HL.out.1, HL.out.2⟩

theorem rect_any (x0 y0 x1 y1 : Int) (w : World) :
    Calls Try.prog 51 #[.int .i64 x0, .int .i64 y0, .int .i64 x1, .int .i64 y1] w (GivesR (rectE x0 y0 x1 y1) (rectR x0 y0 x1 y1) w) := by
  cases hb : bnds [x0, y0, x1, y1] with
  | false =>
    have e : rectE x0 y0 x1 y1 = 3 := by unfold rectE; rw [hb]; rfl
    have e2 : rectR x0 y0 x1 y1 = [] := by unfold rectR; rw [e]; rfl
    rw [e, e2]
    exact rect_range x0 y0 x1 y1 w hb
  | true =>
    by_cases hc : x1 < x0 ∨ y1 < y0
    · have e : rectE x0 y0 x1 y1 = 18 := by unfold rectE; rw [if_pos hb, if_pos hc]
      have e2 : rectR x0 y0 x1 y1 = [] := by unfold rectR; rw [e]; rfl
      rw [e, e2]
      exact rect_order x0 y0 x1 y1 w hb hc
    · have e : rectE x0 y0 x1 y1 = 0 := by unfold rectE; rw [if_pos hb, if_neg hc]
      by_cases hx : x0 = x1
      · subst hx
        have e2 : rectR x0 y0 x0 y1 = [] := by unfold rectR; rw [if_neg (fun k => k.2 rfl)]
        rw [e, e2]
        exact rect_none x0 y0 y1 w hb (by omega)
      · have e2 : rectR x0 y0 x1 y1 = rows y0 x0 x1 (y1 - y0).toNat := by unfold rectR; rw [if_pos ⟨e, hx⟩]
        rw [e, e2]
        exact rect_rows x0 y0 x1 y1 w hb (by omega) (by omega)

end Go.Proofs.Ytijkoaggcmgjiaa
