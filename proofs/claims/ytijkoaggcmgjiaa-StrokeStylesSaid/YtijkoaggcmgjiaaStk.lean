/- stroke.Check and the reference's StyleCheck; the law StrokeStyles. -/
import Derived.Test.YtijkoaggcmgjiaaGro
import Derived.Test.YtijkoaggcmgjiaaOpen
namespace Go.Proofs.Ytijkoaggcmgjiaa
open Go Go.RowKit Go.ChangeShapes Go.WideShapes Go.ChangeAt Go.Deep
set_option linter.unusedVariables false
set_option linter.unusedSimpArgs false

section
variable {H : Type} {enc : TypeId × Value → H} {P : Program} {w : World} {base : Nat} {spare : Nat → Bool} {held : Bool}
theorem open_st4 {r : Reach} {b0 : Nat} {t : TypeId} {f0 f1 f2 f3 : Field} {v : Value} {d : DataW H} {p : List MemPlace} (hs : P.underlying t = some (.struct #[f0, f1, f2, f3])) (hone : oneCellFields P #[f0, f1, f2, f3] = true) (hC : P.cellsOf t = 4)
    (hk : (#[f0, f1, f2, f3].all fun f => isI64 P f.type) = true) (hv : Value.okWide P w r b0 t v) (h : DataW.Trod enc P w base spare held t v d p) : ∃ a b c d : Int, v = .agg #[.int .i64 a, .int .i64 b, .int .i64 c, .int .i64 d] := by
  obtain ⟨zs, hl, rfl⟩ := open_nums hs hone hC hk hv h
  match zs, hl with
  | [a, b, c, d], _ => exact ⟨a, b, c, d, rfl⟩
end

abbrev stc (a b c d : Int) : Array Value := #[.int .i64 a, .int .i64 b, .int .i64 c, .int .i64 d]
abbrev stv (a b c d : Int) : Value := .agg (stc a b c d)
/-- The error of a style. -/
def chkS (a b c d : Int) : Int := if ¬ (1 ≤ a ∧ a ≤ 1024) then 3 else if ¬ (0 ≤ b ∧ b ≤ 2) ∨ ¬ (0 ≤ c ∧ c ≤ 2) then 1 else if ¬ (16 ≤ d ∧ d ≤ 1024) then 3 else 0

theorem isCap_any (n : Int) (w : World) : Calls Try.prog 69 #[.int .i64 n] w fun e w' => e = .returned (.bool (inB n 0 2)) ∧ w = w' := by
  by_cases h0 : n = 0
  · subst h0
    rw [inB_yes (by omega)]
    go_enter Try.func69, Try.ntmps69
    go_wp2
    go_ret
    exact ⟨rfl, rfl⟩
  · have e0 : (n == 0) = false := by simpa using h0
    by_cases h1 : n = 1
    · subst h1
      rw [inB_yes (by omega)]
      go_enter Try.func69, Try.ntmps69
      go_wp2
      go_ret
      exact ⟨rfl, rfl⟩
    · have e1 : (n == 1) = false := by simpa using h1
      by_cases h2 : n = 2
      · subst h2
        rw [inB_yes (by omega)]
        go_enter Try.func69, Try.ntmps69
        go_wp2
        go_ret
        exact ⟨rfl, rfl⟩
      · have e2 : (n == 2) = false := by simpa using h2
        rw [inB_no (by omega)]
        go_enter Try.func69, Try.ntmps69
        go_wp2
        go_ret
        exact ⟨rfl, rfl⟩
theorem isJoin_any (n : Int) (w : World) : Calls Try.prog 70 #[.int .i64 n] w fun e w' => e = .returned (.bool (inB n 0 2)) ∧ w = w' := by
  by_cases h0 : n = 0
  · subst h0
    rw [inB_yes (by omega)]
    go_enter Try.func70, Try.ntmps70
    go_wp2
    go_ret
    exact ⟨rfl, rfl⟩
  · have e0 : (n == 0) = false := by simpa using h0
    by_cases h1 : n = 1
    · subst h1
      rw [inB_yes (by omega)]
      go_enter Try.func70, Try.ntmps70
      go_wp2
      go_ret
      exact ⟨rfl, rfl⟩
    · have e1 : (n == 1) = false := by simpa using h1
      by_cases h2 : n = 2
      · subst h2
        rw [inB_yes (by omega)]
        go_enter Try.func70, Try.ntmps70
        go_wp2
        go_ret
        exact ⟨rfl, rfl⟩
      · have e2 : (n == 2) = false := by simpa using h2
        rw [inB_no (by omega)]
        go_enter Try.func70, Try.ntmps70
        go_wp2
        go_ret
        exact ⟨rfl, rfl⟩
theorem below_box (w : World) (o : Obj) : Below w.heap.size w (w.alloc o) := below_alloc (Below.refl _ w) o

theorem scheck_any (a b c d : Int) (w : World) : Calls Try.prog 33 #[stv a b c d] w fun e w' => e = .returned (.int .i64 (chkS a b c d)) ∧ Below w.heap.size w w' := by
  unfold chkS
  by_cases h1 : 1 ≤ a
  · by_cases h2 : a ≤ 1024
    · rw [if_neg (fun k => k ⟨h1, h2⟩)]
      have HB := fun w => isCap_any b w
      have HC := fun w => isJoin_any c w
      by_cases h3 : 0 ≤ b ∧ b ≤ 2
      · rw [inB_yes h3] at HB
        by_cases h4 : 0 ≤ c ∧ c ≤ 2
        · rw [inB_yes h4] at HC
          rw [if_neg (by omega)]
          clear h3 h4
          by_cases h5 : 16 ≤ d
          · by_cases h6 : d ≤ 1024
            · rw [if_neg (fun k => k ⟨h5, h6⟩)]
              go_enter Try.func33, Try.ntmps33
              go_wp2_with (first | (go_at_call 69; (with_reducible refine (HB _).mono ?_); rintro e w' ⟨rfl, rfl⟩) | (go_at_call 70; (with_reducible refine (HC _).mono ?_); rintro e w' ⟨rfl, rfl⟩))
              go_ret
              exact ⟨rfl, below_box _ _⟩
            · rw [if_pos (fun k => h6 k.2)]
              go_enter Try.func33, Try.ntmps33
              go_wp2_with (first | (go_at_call 69; (with_reducible refine (HB _).mono ?_); rintro e w' ⟨rfl, rfl⟩) | (go_at_call 70; (with_reducible refine (HC _).mono ?_); rintro e w' ⟨rfl, rfl⟩))
              go_ret
              exact ⟨rfl, below_box _ _⟩
          · rw [if_pos (fun k => h5 k.1)]
            go_enter Try.func33, Try.ntmps33
            go_wp2_with (first | (go_at_call 69; (with_reducible refine (HB _).mono ?_); rintro e w' ⟨rfl, rfl⟩) | (go_at_call 70; (with_reducible refine (HC _).mono ?_); rintro e w' ⟨rfl, rfl⟩))
            go_ret
            exact ⟨rfl, below_box _ _⟩
        · rw [inB_no h4] at HC
          rw [if_pos (.inr h4)]
          clear h3 h4
          go_enter Try.func33, Try.ntmps33
          go_wp2_with (first | (go_at_call 69; (with_reducible refine (HB _).mono ?_); rintro e w' ⟨rfl, rfl⟩) | (go_at_call 70; (with_reducible refine (HC _).mono ?_); rintro e w' ⟨rfl, rfl⟩))
          go_ret
          exact ⟨rfl, below_box _ _⟩
      · rw [inB_no h3] at HB
        rw [if_pos (.inl h3)]
        clear h3
        go_enter Try.func33, Try.ntmps33
        go_wp2_with (go_at_call 69; (with_reducible refine (HB _).mono ?_); rintro e w' ⟨rfl, rfl⟩)
        go_ret
        exact ⟨rfl, below_box _ _⟩
    · rw [if_pos (fun k => h2 k.2)]
      go_enter Try.func33, Try.ntmps33
      go_wp2_with fail
      go_ret
      exact ⟨rfl, below_box _ _⟩
  · rw [if_pos (fun k => h1 k.1)]
    go_enter Try.func33, Try.ntmps33
    go_wp2_with fail
    go_ret
    exact ⟨rfl, below_box _ _⟩

theorem rscheck_any (a b c d : Int) (w : World) : Calls Try.prog 34 #[stv a b c d] w fun e w' => e = .returned (.int .i64 (chkS a b c d)) ∧ Below w.heap.size w w' := by
  unfold chkS
  have HA := fun w => in_any a 1 1024 w
  have HB := fun w => in_any b 0 2 w
  have HC := fun w => in_any c 0 2 w
  have HD := fun w => in_any d 16 1024 w
  by_cases h1 : 1 ≤ a ∧ a ≤ 1024
  · rw [inB_yes h1] at HA
    rw [if_neg (fun k => k h1)]
    clear h1
    by_cases h3 : 0 ≤ b ∧ b ≤ 2
    · rw [inB_yes h3] at HB
      by_cases h4 : 0 ≤ c ∧ c ≤ 2
      · rw [inB_yes h4] at HC
        rw [if_neg (by omega)]
        clear h3 h4
        by_cases h5 : 16 ≤ d ∧ d ≤ 1024
        · rw [inB_yes h5] at HD
          rw [if_neg (fun k => k h5)]
          clear h5
          go_enter Try.func34, Try.ntmps34
          go_wp2_with (go_at_call 71; (first | (with_reducible refine (HA _).mono ?_) | (with_reducible refine (HB _).mono ?_) | (with_reducible refine (HC _).mono ?_) | (with_reducible refine (HD _).mono ?_)); rintro e w' ⟨rfl, rfl⟩)
          go_ret
          exact ⟨rfl, below_box _ _⟩
        · rw [inB_no h5] at HD
          rw [if_pos h5]
          clear h5
          go_enter Try.func34, Try.ntmps34
          go_wp2_with (go_at_call 71; (first | (with_reducible refine (HA _).mono ?_) | (with_reducible refine (HB _).mono ?_) | (with_reducible refine (HC _).mono ?_) | (with_reducible refine (HD _).mono ?_)); rintro e w' ⟨rfl, rfl⟩)
          go_ret
          exact ⟨rfl, below_box _ _⟩
      · rw [inB_no h4] at HC
        rw [if_pos (.inr h4)]
        clear h3 h4
        go_enter Try.func34, Try.ntmps34
        go_wp2_with (go_at_call 71; (first | (with_reducible refine (HA _).mono ?_) | (with_reducible refine (HB _).mono ?_) | (with_reducible refine (HC _).mono ?_)); rintro e w' ⟨rfl, rfl⟩)
        go_ret
        exact ⟨rfl, below_box _ _⟩
    · rw [inB_no h3] at HB
      rw [if_pos (.inl h3)]
      clear h3
      go_enter Try.func34, Try.ntmps34
      go_wp2_with (go_at_call 71; (first | (with_reducible refine (HA _).mono ?_) | (with_reducible refine (HB _).mono ?_)); rintro e w' ⟨rfl, rfl⟩)
      go_ret
      exact ⟨rfl, below_box _ _⟩
  · rw [inB_no h1] at HA
    rw [if_pos h1]
    clear h1
    go_enter Try.func34, Try.ntmps34
    go_wp2_with (go_at_call 71; (with_reducible refine (HA _).mono ?_); rintro e w' ⟨rfl, rfl⟩)
    go_ret
    exact ⟨rfl, below_box _ _⟩
theorem enters_scheck : Enters Try.prog 33 := enters_of Try.func33 (by kernel_rfl) rfl
theorem enters_rscheck : Enters Try.prog 34 := enters_of Try.func34 (by kernel_rfl) rfl
theorem Var.read4' {w : World} {n : Nat} {a b c d : Value} {t : TypeId} (h : Var w n #[a, b, c, d] t) :
    w.cell? ⟨n, 0, none⟩ = some a ∧ w.cell? ⟨n, 1, none⟩ = some b ∧ w.cell? ⟨n, 2, none⟩ = some c ∧ w.cell? ⟨n, 3, none⟩ = some d ∧ ∀ i, w.frozen? ⟨n, i, none⟩ = false := ⟨h.cell 0, h.cell 1, h.cell 2, h.cell 3, h.free⟩
section
variable {ρ : Operand → Value} {dst : Option Tmp} {ty : TypeId} {pos : String} {af : Array Edge} {x y : Operand} {w : World} {gd : Option (Nat × Bool)}
theorem run_eqE {i j : Int} (hx : ρ x = .int .i64 i) (hy : ρ y = .int .i64 j) :
    (execOp ρ { dst := dst, op := .binOp .eql 26 x y 26, type := ty, pos := pos, after := af, guard := gd }).run Try.prog w = .ok (.value (.bool (i == j))) w := by
  go_simp
theorem run_loadStk {g : Nat} {a b c d : Int} (hx : ρ x = .pointer (some ⟨g, 0, none⟩)) (hV : Var w g (stc a b c d) 61) :
    (execOp ρ { dst := dst, op := .load 61 x, type := ty, pos := pos, after := af, guard := gd }).run Try.prog w = .ok (.value (stv a b c d)) w := by
  obtain ⟨c0, c1, c2, c3, -⟩ := hV.read4'
  go_simp
end
set_option maxRecDepth 100000 in
theorem styles_law (a b c d : Int) (w : World) : Calls Try.prog 9 #[stv a b c d] w fun e w' => e = .returned (.bool true) ∧ Below w.heap.size w w' := by
  go_enter Try.func9, Try.ntmps9
  go_upto_region 1 with fail
  obtain ⟨W, hW⟩ : ∃ W, W = w.alloc (.cells (stc a b c d) 61) := ⟨_, rfl⟩
  have HV := hid (show Var W w.heap.size (stc a b c d) 61 by rw [hW]; exact Var.new _ _ _ _ rfl)
  have HB := hid (show Below w.heap.size w W by rw [hW]; exact below_box _ _)
  rw [← hW]
  clear hW
  refine wpIn_wide.1 (grow_round (F := Fence.wide) (n := 0) (by kernel_rfl) (by kernel_rfl) (by kernel_rfl) ?_)
  refine gq_val (v := stv 4 0 0 0) (fun _ => trivial) rfl (fun w' hw' => by go_simp) ?_
  simp only [Act.put, List.setIfInBounds_toArray, List.set_cons_succ, List.set_cons_zero]
  refine gq_call (v := .int .i64 3) (f := 33) (args := #[stv 4 0 0 0]) (fun _ => trivial) rfl rfl (fun _ => run_call1 rfl enters_scheck) (fun w' hw' => (callsIn_wide.2 (scheck_any 4 0 0 0 w')).mono fun e w'' he => ⟨he.1, below_next hw' he.2⟩) ?_
  simp only [Act.put, List.setIfInBounds_toArray, List.set_cons_succ, List.set_cons_zero]
  refine gq_val (v := .bool true) (fun _ => trivial) rfl (fun w' hw' => run_eqE (i := 3) (j := 3) rfl rfl) ?_
  simp only [Act.put, List.setIfInBounds_toArray, List.set_cons_succ, List.set_cons_zero]
  refine gq_val (v := .bool true) (fun _ => trivial) rfl (fun w' hw' => rfl) ?_
  simp only [Act.put, List.setIfInBounds_toArray, List.set_cons_succ, List.set_cons_zero]
  refine gq_val (v := stv a b c d) (fun _ => trivial) rfl (fun w' hw' => run_loadStk rfl (HV.out.next hw')) ?_
  simp only [Act.put, List.setIfInBounds_toArray, List.set_cons_succ, List.set_cons_zero]
  refine gq_call (v := .int .i64 (chkS a b c d)) (f := 33) (args := #[stv a b c d]) (fun _ => trivial) rfl rfl (fun _ => run_call1 rfl enters_scheck) (fun w' hw' => (callsIn_wide.2 (scheck_any a b c d w')).mono fun e w'' he => ⟨he.1, below_next hw' he.2⟩) ?_
  simp only [Act.put, List.setIfInBounds_toArray, List.set_cons_succ, List.set_cons_zero]
  refine gq_val (v := stv a b c d) (fun _ => trivial) rfl (fun w' hw' => run_loadStk rfl (HV.out.next hw')) ?_
  simp only [Act.put, List.setIfInBounds_toArray, List.set_cons_succ, List.set_cons_zero]
  refine gq_call (v := .int .i64 (chkS a b c d)) (f := 34) (args := #[stv a b c d]) (fun _ => trivial) rfl rfl (fun _ => run_call1 rfl enters_rscheck) (fun w' hw' => (callsIn_wide.2 (rscheck_any a b c d w')).mono fun e w'' he => ⟨he.1, below_next hw' he.2⟩) ?_
  simp only [Act.put, List.setIfInBounds_toArray, List.set_cons_succ, List.set_cons_zero]
  refine gq_val (v := .bool (chkS a b c d == chkS a b c d)) (fun _ => trivial) rfl (fun w' hw' => run_eqE rfl rfl) ?_
  simp only [Act.put, List.setIfInBounds_toArray, List.set_cons_succ, List.set_cons_zero]
  rw [show (chkS a b c d == chkS a b c d) = true by simp]
  refine gq_val (v := .bool true) (fun _ => trivial) rfl (fun w' hw' => rfl) ?_
  simp only [Act.put, List.setIfInBounds_toArray, List.set_cons_succ, List.set_cons_zero]
  refine gq_val (v := .bool true) (fun _ => trivial) rfl (fun w' hw' => rfl) ?_
  simp only [Act.put, List.setIfInBounds_toArray, List.set_cons_succ, List.set_cons_zero]
  refine wpQuietIn_nil ?_
  rintro X4 hb4
  have HB4 := hid (below_next HB.out hb4)
  go_wp2_with fail
  go_ret
  exact ⟨rfl, HB4.out⟩
end Go.Proofs.Ytijkoaggcmgjiaa
