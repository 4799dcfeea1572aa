/- dash's distance, lengthOf, round, pointAt. -/
import Derived.Test.YtjflgblplmgjlaaOwd
import Derived.Test.YtjflgblplmgjlaaRoot
import Derived.Test.YtjflgblplmgjlaaHlf
import Derived.Test.YtjflgblplmgjlaaGtl
import Derived.BigQuiet
namespace Go.Proofs.Ytjflgblplmgjlaa
open Go Go.RowKit
set_option linter.unusedVariables false
set_option linter.unusedSimpArgs false

theorem sq_rng {p q : P2} (hp : PIn p) (hq : PIn q) : 0 ≤ (q.x - p.x) * (q.x - p.x) ∧ (q.x - p.x) * (q.x - p.x) ≤ 4294705156 ∧ 0 ≤ (q.y - p.y) * (q.y - p.y) ∧ (q.y - p.y) * (q.y - p.y) ≤ 4294705156 := by
  obtain ⟨⟨a, b⟩, c, d⟩ := hp
  obtain ⟨⟨a', b'⟩, c', d'⟩ := hq
  have h1 := sq_bd (a := q.x - p.x) (A := 65534) ⟨by omega, by omega⟩
  have h2 := sq_bd (a := q.y - p.y) (A := 65534) ⟨by omega, by omega⟩
  exact ⟨sq_nn _, by omega, sq_nn _, by omega⟩
theorem dist_any (p q : P2) (w : World) (hp : PIn p) (hq : PIn q) : Calls Try.prog 35 #[ptv p, ptv q] w fun e w' => e = .returned (.int .i64 (dst p q)) ∧ Below w.heap.size w w' := by
  have HR := hid (root_any (dsq p q) (dst p q) · (dsq_nn p q) (by have := dsq_le hp hq; omega) (dst_root p q))
  have HD := hid (show dsq p q = (q.x - p.x) * (q.x - p.x) + (q.y - p.y) * (q.y - p.y) from rfl)
  obtain ⟨e1, e2, e3, e4⟩ := sq_rng hp hq
  obtain ⟨⟨a1, a2⟩, a3, a4⟩ := hp
  obtain ⟨⟨b1, b2⟩, b3, b4⟩ := hq
  have HB := hid (below_alloc (below_alloc (Below.refl w.heap.size w) (.cells (pcel p) 37)) (.cells (pcel q) 37))
  have hX : ∃ X, X = (q.x - p.x) * (q.x - p.x) := ⟨_, rfl⟩
  have hY : ∃ Y, Y = (q.y - p.y) * (q.y - p.y) := ⟨_, rfl⟩
  obtain ⟨X, hX⟩ := hX
  obtain ⟨Y, hY⟩ := hY
  rw [← hX, ← hY] at HD
  rw [← hX] at e1 e2
  rw [← hY] at e3 e4
  replace hX := hX.symm
  replace hY := hY.symm
  go_enter Try.func35, Try.ntmps35
  go_wp2_with fail
  go_quiet (fail)
  go_wp2_with fail
  rw [← HD.out]
  (with_reducible refine (HR.out _).mono ?_); rintro e w1 ⟨rfl, rfl⟩
  go_wp2_with fail
  go_ret
  exact ⟨rfl, below_drewN HB.out _⟩

theorem lenof_any (A : Option Addr) (ss : List Sd) (n c : Nat) (w : World) (hn : n = ss.length) (hl : n ≤ maxLen) (hs : RowD w A ss) :
    Calls Try.prog 26 #[.slice A n c] w fun e w' => e = .returned (.int .i64 ((ss.getLast?.map Sd.e).getD 0)) ∧ w = w' := by
  unfold maxLen at hl
  by_cases h0 : n = 0
  · subst h0
    obtain rfl : ss = [] := List.eq_nil_of_length_eq_zero hn.symm
    clear hn hs hl
    go_enter Try.func26, Try.ntmps26
    go_wp2_with fail
    go_ret
    exact ⟨rfl, rfl⟩
  · have hil : n - 1 < ss.length := by omega
    obtain ⟨a, rfl, hal, hsa⟩ := hs.at_ hil
    have HE := hid (show (ss.getLast?.map Sd.e).getD 0 = ss[n - 1].e by rw [List.getLast?_eq_getElem?, ← hn, List.getElem?_eq_getElem hil]; rfl)
    generalize ss[n - 1] = g at hsa HE
    rw [HE.out]
    obtain ⟨-, -, -, -, -, c5⟩ := hsa
    have hnz : ((n : Int) == 0) = false := by simp; omega
    have hk : ∃ k, n = k + 1 := ⟨n - 1, by omega⟩
    obtain ⟨k, rfl⟩ := hk
    have h1 : ((k + 1 : Nat) : Int) - 1 = (k : Int) := by omega
    have h2 : (k : Int) < ((k + 1 : Nat) : Int) := by omega
    rw [Nat.add_sub_cancel] at c5
    clear HE hn hs hal hil h0
    go_enter Try.func26, Try.ntmps26
    go_wp2_with fail
    go_ret
    exact ⟨rfl, rfl⟩

theorem dround_any (a b : Int) (w : World) (h : Ins [a, b]) (hb : 1 ≤ b) : Calls Try.prog 45 #[.int .i64 a, .int .i64 b] w fun e w' => e = .returned (.int .i64 (rdn a b)) ∧ Below w.heap.size w w' := by
  have HR := hid (round_ok a b w h hb)
  rw [show (2 * a + b) / (2 * b) = rdn a b from rfl] at HR
  go_enter Try.func45, Try.ntmps45
  go_wp2_with fail
  (with_reducible refine HR.out.mono ?_); rintro e w1 ⟨rfl, hb⟩
  have HB := hid hb
  clear hb
  go_wp2_with fail
  go_ret
  exact ⟨rfl, HB.out⟩
theorem enters_dround : Enters Try.prog 45 := enters_of Try.func45 (by kernel_rfl) rfl

section
variable {ρ : Operand → Value} {dst : Option Tmp} {ty : TypeId} {pos : String} {af : Array Edge} {x y : Operand} {w : World} {gd : Option (Nat × Bool)}
theorem run_fldD0 {g : Nat} (hx : ρ x = .pointer (some ⟨g, 0, none⟩)) :
    (execOp ρ { dst := dst, op := .fieldAddr 72 x 0, type := ty, pos := pos, after := af, guard := gd }).run Try.prog w = .ok (.value (.pointer (some ⟨g, 0, none⟩))) w := by
  go_simp
theorem run_fldD1 {g : Nat} (hx : ρ x = .pointer (some ⟨g, 0, none⟩)) :
    (execOp ρ { dst := dst, op := .fieldAddr 72 x 1, type := ty, pos := pos, after := af, guard := gd }).run Try.prog w = .ok (.value (.pointer (some ⟨g, 2, none⟩))) w := by
  go_simp
theorem run_fldD2 {g : Nat} (hx : ρ x = .pointer (some ⟨g, 0, none⟩)) :
    (execOp ρ { dst := dst, op := .fieldAddr 72 x 2, type := ty, pos := pos, after := af, guard := gd }).run Try.prog w = .ok (.value (.pointer (some ⟨g, 4, none⟩))) w := by
  go_simp
theorem run_fldD3 {g : Nat} (hx : ρ x = .pointer (some ⟨g, 0, none⟩)) :
    (execOp ρ { dst := dst, op := .fieldAddr 72 x 3, type := ty, pos := pos, after := af, guard := gd }).run Try.prog w = .ok (.value (.pointer (some ⟨g, 5, none⟩))) w := by
  go_simp
theorem run_fldPa {g o : Nat} (hx : ρ x = .pointer (some ⟨g, o, none⟩)) :
    (execOp ρ { dst := dst, op := .fieldAddr 37 x 0, type := ty, pos := pos, after := af, guard := gd }).run Try.prog w = .ok (.value (.pointer (some ⟨g, o, none⟩))) w := by
  go_simp
theorem run_fldPb {g o : Nat} (hx : ρ x = .pointer (some ⟨g, o, none⟩)) :
    (execOp ρ { dst := dst, op := .fieldAddr 37 x 1, type := ty, pos := pos, after := af, guard := gd }).run Try.prog w = .ok (.value (.pointer (some ⟨g, o + 1, none⟩))) w := by
  have e : (⟨g, o, none⟩ : Addr).add 1 = ⟨g, o + 1, none⟩ := rfl
  go_simp
end
theorem mul_bd {a b A B : Int} (ha : -A ≤ a ∧ a ≤ A) (hb : 0 ≤ b ∧ b ≤ B) : -(A * B) ≤ a * b ∧ a * b ≤ A * B := by
  have hA : 0 ≤ A := by omega
  have h1 : a * b ≤ A * b := Int.mul_le_mul_of_nonneg_right ha.2 hb.1
  have h2 : -A * b ≤ a * b := Int.mul_le_mul_of_nonneg_right ha.1 hb.1
  have h3 : A * b ≤ A * B := Int.mul_le_mul_of_nonneg_left hb.2 hA
  rw [Int.neg_mul] at h2
  omega
theorem rdn_bd {a b M : Int} (hb : 1 ≤ b) (ha : -M ≤ a ∧ a ≤ M) : -M - 1 ≤ rdn a b ∧ rdn a b ≤ M + 1 := by
  unfold rdn
  have hM : 0 ≤ M := by omega
  have h0 : M * 1 ≤ M * b := Int.mul_le_mul_of_nonneg_left hb hM
  have e1 : (M + 1) * (2 * b) = 2 * (M * b) + 2 * b := by grind
  have e2 : (-M - 1) * (2 * b) = -(2 * (M * b)) - 2 * b := by grind
  constructor
  · exact Int.le_ediv_of_mul_le (by omega) (by omega)
  · exact Int.ediv_le_of_le_mul (by omega) (by omega)
theorem retPt {fn : Func} {p : Tmp} {R : Ending → World → Prop} {tmps : Array Value} {w : World} {B : Nat} {s : P2} (h : fn.results = #[.cell p 37]) (hp : tmps.getD p undef = .pointer (some ⟨B, 0, none⟩))
    (hV : Var w B (pcel s) 37) (hR : R (.returned (ptv s)) w) : bodyPost Try.prog fn R .ret ⟨tmps, []⟩ w :=
  bodyPost_ret (v := ptv s) (by
    show (results fn tmps).run _ w = _
    obtain ⟨c0, c1, -⟩ := hV.read2
    have e : (loadVar 37 ⟨B, 0, none⟩).run Try.prog w = .ok (ptv s) w := by simp [go_sem, *]
    have hp' := hp
    rw [Array.getD_eq_getD_getElem?] at hp'
    simp [results, h, hp', asAddr, e]) rfl hR

theorem Var.read6 {w : World} {n : Nat} {a b c d e f : Value} {t : TypeId} (h : Var w n #[a, b, c, d, e, f] t) :
    w.cell? ⟨n, 0, none⟩ = some a ∧ w.cell? ⟨n, 1, none⟩ = some b ∧ w.cell? ⟨n, 2, none⟩ = some c ∧ w.cell? ⟨n, 3, none⟩ = some d ∧ w.cell? ⟨n, 4, none⟩ = some e ∧ w.cell? ⟨n, 5, none⟩ = some f ∧ ∀ i, w.frozen? ⟨n, i, none⟩ = false :=
  ⟨h.cell 0, h.cell 1, h.cell 2, h.cell 3, h.cell 4, h.cell 5, h.free⟩
/-- A side whose numbers are in range. -/
structure SdIn (s : Sd) : Prop where
  f : PIn s.f
  t : PIn s.t
  b : 0 ≤ s.b
  e : s.e ≤ 1000000000000
  l : s.e - s.b ≤ 92680
set_option maxRecDepth 100000 in
set_option maxHeartbeats 2000000 in
theorem pointAt_any (s : Sd) (p : Int) (w : World) (hs : SdIn s) (h0 : s.b < s.e) (hp : s.b ≤ p) (hp2 : p ≤ s.e) :
    Calls Try.prog 42 #[sdv s, .int .i64 p] w fun e w' => e = .returned (ptv (ptS s p)) ∧ Below w.heap.size w w' := by
  obtain ⟨⟨⟨a1, a2⟩, a3, a4⟩, ⟨⟨b1, b2⟩, b3, b4⟩, c1, c2, c3⟩ := hs
  obtain ⟨m1, m2⟩ := mul_bd (a := s.t.x - s.f.x) (b := p - s.b) (A := 65534) (B := 92680) ⟨by omega, by omega⟩ ⟨by omega, by omega⟩
  obtain ⟨n1, n2⟩ := mul_bd (a := s.t.y - s.f.y) (b := p - s.b) (A := 65534) (B := 92680) ⟨by omega, by omega⟩ ⟨by omega, by omega⟩
  have HX := hid (show Rg ((s.t.x - s.f.x) * (p - s.b)) by unfold Rg; omega)
  have HY := hid (show Rg ((s.t.y - s.f.y) * (p - s.b)) by unfold Rg; omega)
  have rx := rdn_bd (a := (s.t.x - s.f.x) * (p - s.b)) (b := s.e - s.b) (M := 6073691120) (by omega) ⟨by omega, by omega⟩
  have ry := rdn_bd (a := (s.t.y - s.f.y) * (p - s.b)) (b := s.e - s.b) (M := 6073691120) (by omega) ⟨by omega, by omega⟩
  have HCx := hid (dround_any ((s.t.x - s.f.x) * (p - s.b)) (s.e - s.b) · (ins2.2 ⟨⟨by omega, by omega⟩, by omega, by omega⟩) (by omega))
  have HCy := hid (dround_any ((s.t.y - s.f.y) * (p - s.b)) (s.e - s.b) · (ins2.2 ⟨⟨by omega, by omega⟩, by omega, by omega⟩) (by omega))
  have HPS := hid (show ptS s p = ⟨s.f.x + rdn ((s.t.x - s.f.x) * (p - s.b)) (s.e - s.b), s.f.y + rdn ((s.t.y - s.f.y) * (p - s.b)) (s.e - s.b)⟩ from rfl)
  obtain ⟨Rx, hRx⟩ : ∃ R, R = rdn ((s.t.x - s.f.x) * (p - s.b)) (s.e - s.b) := ⟨_, rfl⟩
  obtain ⟨Ry, hRy⟩ : ∃ R, R = rdn ((s.t.y - s.f.y) * (p - s.b)) (s.e - s.b) := ⟨_, rfl⟩
  rw [← hRx] at HCx rx
  rw [← hRy] at HCy ry
  rw [← hRx, ← hRy] at HPS
  clear hRx hRy m1 m2 n1 n2
  have HRX := hid (show Rg (s.f.x + Rx) by unfold Rg; omega)
  have HRY := hid (show Rg (s.f.y + Ry) by unfold Rg; omega)
  obtain ⟨b0, hb0⟩ : ∃ b0, b0 = w.heap.size := ⟨_, rfl⟩
  have HV := hid ((Var.new w (sdc s) 72 b0 hb0).alloc (.cells (pcel ⟨0, 0⟩) 37))
  have HP := hid (Var.new (w.alloc (.cells (sdc s) 72)) (pcel ⟨0, 0⟩) 37 (b0 + 1) (by rw [hb0]; simp))
  have HB := hid (below_alloc (below_alloc (Below.refl w.heap.size w) (.cells (sdc s) 72)) (.cells (pcel ⟨0, 0⟩) 37))
  have HB0 := hid hb0
  go_enter Try.func42, Try.ntmps42
  go_wp2_with fail
  rw [← hb0]
  clear hb0
  generalize (w.alloc (.cells (sdc s) 72)).alloc (.cells (pcel ⟨0, 0⟩) 37) = X at HV HP HB ⊢
  obtain ⟨d0, d1, d2, d3, d4, d5, -⟩ := HV.out.read6
  go_quiet (fail)
  go_upto_region 2 with fail
  clear d0 d1 d2 d3 d4 d5
  obtain ⟨X1, hX1⟩ : ∃ X1, X1 = X.drewN nq := ⟨_, rfl⟩
  replace HV := hid (show Var X1 b0 (sdc s) 72 by rw [hX1]; exact HV.out.drewN nq)
  replace HP := hid (show Var X1 (b0 + 1) (pcel ⟨0, 0⟩) 37 by rw [hX1]; exact HP.out.drewN nq)
  replace HB := hid (show Below w.heap.size w X1 by rw [hX1]; exact below_drewN HB.out nq)
  rw [← hX1]
  clear hX1
  refine wpIn_wide.1 (grow_tail (F := Fence.wide) (n := 0) 31 (by kernel_rfl) (by kernel_rfl) (by kernel_rfl) ?_)
  simp only [List.take_succ_cons, List.take_zero, List.drop_succ_cons, List.drop_zero]
  refine gq_val (v := .pointer (some (⟨b0, 0, none⟩))) (fun _ => trivial) rfl (fun w' hw' => run_fldD0 rfl) ?_
  simp only [Act.put, List.setIfInBounds_toArray, List.set_cons_succ, List.set_cons_zero]
  refine gq_val (v := .pointer (some (⟨b0, 0, none⟩))) (fun _ => trivial) rfl (fun w' hw' => run_fldPa rfl) ?_
  simp only [Act.put, List.setIfInBounds_toArray, List.set_cons_succ, List.set_cons_zero]
  refine gq_val (v := .int .i64 s.f.x) (fun _ => trivial) rfl (fun w' hw' => run_loadInt rfl ((HV.out.next hw').cell 0)) ?_
  simp only [Act.put, List.setIfInBounds_toArray, List.set_cons_succ, List.set_cons_zero]
  refine gq_val (v := .pointer (some (⟨b0, 2, none⟩))) (fun _ => trivial) rfl (fun w' hw' => run_fldD1 rfl) ?_
  simp only [Act.put, List.setIfInBounds_toArray, List.set_cons_succ, List.set_cons_zero]
  refine gq_val (v := .pointer (some (⟨b0, 2, none⟩))) (fun _ => trivial) rfl (fun w' hw' => run_fldPa rfl) ?_
  simp only [Act.put, List.setIfInBounds_toArray, List.set_cons_succ, List.set_cons_zero]
  refine gq_val (v := .int .i64 s.t.x) (fun _ => trivial) rfl (fun w' hw' => run_loadInt rfl ((HV.out.next hw').cell 2)) ?_
  simp only [Act.put, List.setIfInBounds_toArray, List.set_cons_succ, List.set_cons_zero]
  refine gq_val (v := .pointer (some (⟨b0, 0, none⟩))) (fun _ => trivial) rfl (fun w' hw' => run_fldD0 rfl) ?_
  simp only [Act.put, List.setIfInBounds_toArray, List.set_cons_succ, List.set_cons_zero]
  refine gq_val (v := .pointer (some (⟨b0, 0, none⟩))) (fun _ => trivial) rfl (fun w' hw' => run_fldPa rfl) ?_
  simp only [Act.put, List.setIfInBounds_toArray, List.set_cons_succ, List.set_cons_zero]
  refine gq_val (v := .int .i64 s.f.x) (fun _ => trivial) rfl (fun w' hw' => run_loadInt rfl ((HV.out.next hw').cell 0)) ?_
  simp only [Act.put, List.setIfInBounds_toArray, List.set_cons_succ, List.set_cons_zero]
  refine gq_val (v := .int .i64 (s.t.x - s.f.x)) (fun _ => trivial) rfl (fun w' hw' => run_sub rfl rfl (by unfold Rg; omega)) ?_
  simp only [Act.put, List.setIfInBounds_toArray, List.set_cons_succ, List.set_cons_zero]
  refine gq_val (v := .int .i64 (p - s.b)) (fun _ => trivial) rfl (fun w' hw' => rfl) ?_
  simp only [Act.put, List.setIfInBounds_toArray, List.set_cons_succ, List.set_cons_zero]
  refine gq_val (v := .int .i64 ((s.t.x - s.f.x) * (p - s.b))) (fun _ => trivial) rfl (fun w' hw' => run_mul rfl rfl HX.out) ?_
  simp only [Act.put, List.setIfInBounds_toArray, List.set_cons_succ, List.set_cons_zero]
  refine gq_val (v := .int .i64 (s.e - s.b)) (fun _ => trivial) rfl (fun w' hw' => rfl) ?_
  simp only [Act.put, List.setIfInBounds_toArray, List.set_cons_succ, List.set_cons_zero]
  refine gq_call (v := .int .i64 Rx) (f := 45) (args := #[.int .i64 ((s.t.x - s.f.x) * (p - s.b)), .int .i64 (s.e - s.b)]) (fun _ => trivial) rfl rfl (fun _ => run_call2 rfl enters_dround) (fun w' hw' => (callsIn_wide.2 (HCx.out w')).mono fun e w'' he => ⟨he.1, below_next hw' he.2⟩) ?_
  simp only [Act.put, List.setIfInBounds_toArray, List.set_cons_succ, List.set_cons_zero]
  refine gq_val (v := .int .i64 (s.f.x + Rx)) (fun _ => trivial) rfl (fun w' hw' => run_add rfl rfl HRX.out) ?_
  simp only [Act.put, List.setIfInBounds_toArray, List.set_cons_succ, List.set_cons_zero]
  refine gq_val (v := .pointer (some (⟨b0, 0, none⟩))) (fun _ => trivial) rfl (fun w' hw' => run_fldD0 rfl) ?_
  simp only [Act.put, List.setIfInBounds_toArray, List.set_cons_succ, List.set_cons_zero]
  refine gq_val (v := .pointer (some (⟨b0, 1, none⟩))) (fun _ => trivial) rfl (fun w' hw' => run_fldPb rfl) ?_
  simp only [Act.put, List.setIfInBounds_toArray, List.set_cons_succ, List.set_cons_zero]
  refine gq_val (v := .int .i64 s.f.y) (fun _ => trivial) rfl (fun w' hw' => run_loadInt rfl ((HV.out.next hw').cell 1)) ?_
  simp only [Act.put, List.setIfInBounds_toArray, List.set_cons_succ, List.set_cons_zero]
  refine gq_val (v := .pointer (some (⟨b0, 2, none⟩))) (fun _ => trivial) rfl (fun w' hw' => run_fldD1 rfl) ?_
  simp only [Act.put, List.setIfInBounds_toArray, List.set_cons_succ, List.set_cons_zero]
  refine gq_val (v := .pointer (some (⟨b0, 3, none⟩))) (fun _ => trivial) rfl (fun w' hw' => run_fldPb rfl) ?_
  simp only [Act.put, List.setIfInBounds_toArray, List.set_cons_succ, List.set_cons_zero]
  refine gq_val (v := .int .i64 s.t.y) (fun _ => trivial) rfl (fun w' hw' => run_loadInt rfl ((HV.out.next hw').cell 3)) ?_
  simp only [Act.put, List.setIfInBounds_toArray, List.set_cons_succ, List.set_cons_zero]
  refine gq_val (v := .pointer (some (⟨b0, 0, none⟩))) (fun _ => trivial) rfl (fun w' hw' => run_fldD0 rfl) ?_
  simp only [Act.put, List.setIfInBounds_toArray, List.set_cons_succ, List.set_cons_zero]
  refine gq_val (v := .pointer (some (⟨b0, 1, none⟩))) (fun _ => trivial) rfl (fun w' hw' => run_fldPb rfl) ?_
  simp only [Act.put, List.setIfInBounds_toArray, List.set_cons_succ, List.set_cons_zero]
  refine gq_val (v := .int .i64 s.f.y) (fun _ => trivial) rfl (fun w' hw' => run_loadInt rfl ((HV.out.next hw').cell 1)) ?_
  simp only [Act.put, List.setIfInBounds_toArray, List.set_cons_succ, List.set_cons_zero]
  refine gq_val (v := .int .i64 (s.t.y - s.f.y)) (fun _ => trivial) rfl (fun w' hw' => run_sub rfl rfl (by unfold Rg; omega)) ?_
  simp only [Act.put, List.setIfInBounds_toArray, List.set_cons_succ, List.set_cons_zero]
  refine gq_val (v := .int .i64 (p - s.b)) (fun _ => trivial) rfl (fun w' hw' => rfl) ?_
  simp only [Act.put, List.setIfInBounds_toArray, List.set_cons_succ, List.set_cons_zero]
  refine gq_val (v := .int .i64 ((s.t.y - s.f.y) * (p - s.b))) (fun _ => trivial) rfl (fun w' hw' => run_mul rfl rfl HY.out) ?_
  simp only [Act.put, List.setIfInBounds_toArray, List.set_cons_succ, List.set_cons_zero]
  refine gq_val (v := .int .i64 (s.e - s.b)) (fun _ => trivial) rfl (fun w' hw' => rfl) ?_
  simp only [Act.put, List.setIfInBounds_toArray, List.set_cons_succ, List.set_cons_zero]
  refine gq_call (v := .int .i64 Ry) (f := 45) (args := #[.int .i64 ((s.t.y - s.f.y) * (p - s.b)), .int .i64 (s.e - s.b)]) (fun _ => trivial) rfl rfl (fun _ => run_call2 rfl enters_dround) (fun w' hw' => (callsIn_wide.2 (HCy.out w')).mono fun e w'' he => ⟨he.1, below_next hw' he.2⟩) ?_
  simp only [Act.put, List.setIfInBounds_toArray, List.set_cons_succ, List.set_cons_zero]
  refine gq_val (v := .int .i64 (s.f.y + Ry)) (fun _ => trivial) rfl (fun w' hw' => run_add rfl rfl HRY.out) ?_
  simp only [Act.put, List.setIfInBounds_toArray, List.set_cons_succ, List.set_cons_zero]
  refine gq_val (v := ptv (⟨s.f.x + Rx, s.f.y + Ry⟩)) (fun _ => trivial) rfl (fun w' hw' => run_buildPt rfl rfl) ?_
  simp only [Act.put, List.setIfInBounds_toArray, List.set_cons_succ, List.set_cons_zero]
  refine wpQuietIn_nil ?_
  rintro X4 hb4
  have HP4 := hid (HP.out.next hb4)
  have HB4 := hid (below_next HB.out hb4)
  obtain ⟨p0, p1, pf⟩ := HP4.out.read2
  clear hb4
  gi_wp2
  go_wp2_with fail
  refine retPt (B := b0 + 1) (s := ⟨s.f.x + Rx, s.f.y + Ry⟩) rfl rfl ?_ ⟨by rw [HPS.out], ?_⟩
  · have h := (HP4.out.set (i := 0) (.int .i64 (s.f.x + Rx))).set (i := 1) (.int .i64 (s.f.y + Ry))
    simpa using h
  · have hle : w.heap.size ≤ b0 + 1 := by rw [HB0.out]; omega
    exact (HB4.out.setCell (p := ⟨b0 + 1, 0, none⟩) hle _).setCell (p := ⟨b0 + 1, 1, none⟩) hle _
end Go.Proofs.Ytjflgblplmgjlaa
