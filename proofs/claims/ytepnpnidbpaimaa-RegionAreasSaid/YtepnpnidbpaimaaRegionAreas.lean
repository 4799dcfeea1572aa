/- Areas of regions satisfy inclusion and exclusion; for every input. -/
import Derived.Test.YtepnpnidbpaimaaRows
import Derived.WalkKit
import Derived.ProofKit
import Derived.OpenShut
import Derived.ChangeOld
import Derived.Below
import Derived.Test.YtepnpnidbpaimaaOpen
import Derived.Test.YtepnpnidbpaimaaNear
import Derived.Test.YtepnpnidbpaimaaUni
import Derived.Test.YtepnpnidbpaimaaArC
import Derived.Test.YtepnpnidbpaimaaCnt
namespace Go.Proofs.Ytepnpnidbpaimaa.regionAreas
open Go Go.ChangeShapes Go.WideShapes Go.ChangeAt Go.RowKit Go.Deep
set_option linter.unusedVariables false

def AR (b1 b2 : Nat) (W wx : World) : Prop := ∃ A l c xs A' l' c' ys, wx.cell? ⟨b1, 0, none⟩ = some (.slice A l c) ∧ wx.cell? ⟨b2, 0, none⟩ = some (.slice A' l' c') ∧ l = xs.length ∧ l' = ys.length ∧ l ≤ 1000000000 ∧ l' ≤ 1000000000 ∧ Runs wx A xs ∧ Runs wx A' ys ∧ chk xs = 0 ∧ chk ys = 0 ∧ Below W.heap.size W wx ∧ b1 < wx.heap.size ∧ b2 < wx.heap.size

theorem areaL_bd : ∀ {rs : List Rn} {p : Option Rn}, chkAll p rs = 0 → 0 ≤ areaL rs ∧ areaL rs ≤ 16384 * rs.length
  | [], _, _ => ⟨Int.le_refl _, by simp [areaL]⟩
  | r :: rs, p, h => by
    obtain ⟨h1, h2, h3⟩ := chkAll_cons.1 h
    have ih := areaL_bd h3
    unfold RnOk RnIn at h1
    rw [areaL, List.length_cons]
    omega
theorem areaL_big {rs : List Rn} (h : chk rs = 0) : 0 ≤ areaL rs ∧ areaL rs ≤ 16384000000000 := by
  have h1 := areaL_bd (p := none) h
  have h2 := chk_len h
  omega

theorem areas_end {W X wA Y wB : World} {A2 A3 : Option Addr} {c2 c3 : Nat} {ra rb : List Rn} {u0 u1 : Value} (hV0 : Var X W.heap.size #[u0] 22) (hV1 : Var X (W.heap.size + 1) #[u1] 22) (hBX : Below W.heap.size W X)
    (hoA : OwnR wA X.heap.size (.slice A2 ra.length c2) ra) (hbA : Below X.heap.size X wA) (hY : Below wA.heap.size wA Y) (hoB : OwnR wB Y.heap.size (.slice A3 rb.length c3) rb) (hbB : Below Y.heap.size Y wB)
    (hcA : chk ra = 0) (hcB : chk rb = 0) (hlA : ra.length ≤ 360) (hlB : rb.length ≤ 360) :
    AR W.heap.size (W.heap.size + 1) W ((wB.setCell ⟨W.heap.size, 0, none⟩ (.slice A2 ra.length c2)).setCell ⟨W.heap.size + 1, 0, none⟩ (.slice A3 rb.length c3)) := by
  have hAB := below_next hY hbB
  have V0 := ((hV0.next hbA).next hAB)
  have V1 := ((hV1.next hbA).next hAB)
  have V0' := (V0.set (i := 0) (.slice A2 ra.length c2)).far (p := ⟨W.heap.size + 1, 0, none⟩) (by show W.heap.size ≠ W.heap.size + 1; omega) (.slice A3 rb.length c3)
  have V1' := (V1.far (p := ⟨W.heap.size, 0, none⟩) (by show W.heap.size + 1 ≠ W.heap.size; omega) (.slice A2 ra.length c2)).set (i := 0) (.slice A3 rb.length c3)
  have hl0 := hV0.lt
  have hl1 := hV1.lt
  have hXA := hbA.size
  have hAY := hY.size
  have keep : ∀ {B : Nat} {v : Value} {xs : List Rn}, OwnR wB B v xs → W.heap.size + 1 < B → OwnR ((wB.setCell ⟨W.heap.size, 0, none⟩ (.slice A2 ra.length c2)).setCell ⟨W.heap.size + 1, 0, none⟩ (.slice A3 rb.length c3)) B v xs := fun h hB =>
    h.keep fun k hk => by
      have := (h.ge k hk).1
      exact (Below.heap_setCell _ _ _ _ (by show k ≠ W.heap.size + 1; omega)).trans (Below.heap_setCell _ _ _ _ (by show k ≠ W.heap.size; omega))
  obtain ⟨A4, c4, e4, r4⟩ := (keep (hoA.next hAB) hl1).is
  cases e4
  obtain ⟨A5, c5, e5, r5⟩ := (keep hoB (by omega)).is
  cases e5
  refine ⟨A2, _, c2, ra, A3, _, c3, rb, V0'.cell 0, V1'.cell 0, rfl, rfl, by omega, by omega, r4, r5, hcA, hcB, ?_, V0'.lt, V1'.lt⟩
  exact (((below_next hBX hbA).trans (hAB.mono (Nat.le_trans hBX.size hXA))).setCell (p := ⟨W.heap.size, 0, none⟩) (Nat.le_refl _) _).setCell (p := ⟨W.heap.size + 1, 0, none⟩) (by show W.heap.size ≤ W.heap.size + 1; omega) _

set_option maxHeartbeats 8000000 in
set_option maxRecDepth 100000 in
theorem rest (A0 : Option Addr) (n0 c0 : Nat) (s0 : List Rn) (A1 : Option Addr) (n1 c1 : Nat) (s1 : List Rn) (W : World) (hn0 : n0 = s0.length) (hs0 : Runs W A0 s0) (hm0 : s0.length ≤ maxLen) (hn1 : n1 = s1.length) (hs1 : Runs W A1 s1) (hm1 : s1.length ≤ maxLen) :
    Calls Try.prog 4 #[.slice A0 n0 c0, .slice A1 n1 c1] W fun e w' => e = .returned (.bool true) ∧ Below W.heap.size W w' := by
  have HN0 := hid hn0
  have HM0 := hid (show n0 ≤ maxLen by rw [hn0]; exact hm0)
  have HS0 := hid hs0
  have HN1 := hid hn1
  have HM1 := hid (show n1 ≤ maxLen by rw [hn1]; exact hm1)
  have HS1 := hid hs1
  clear hn0 hs0 hm0 hn1 hs1 hm1
  obtain ⟨W2, hW2⟩ : ∃ W2, W2 = (W.alloc (.cells #[.slice A0 n0 c0] 22)).alloc (.cells #[.slice A1 n1 c1] 22) := ⟨_, rfl⟩
  have HV0 := hid (show Var W2 W.heap.size #[.slice A0 n0 c0] 22 by rw [hW2]; exact (Var.new _ _ _ _ rfl).alloc _)
  have HV1 := hid (show Var W2 (W.heap.size + 1) #[.slice A1 n1 c1] 22 by rw [hW2]; exact Var.new _ _ _ _ (by simp))
  have HB0 := hid (show Below W.heap.size W W2 by rw [hW2]; exact below_alloc (below_alloc (Below.refl _ W) _) _)
  go_enter Try.func4, Try.ntmps4
  go_upto_region 1 with fail
  rw [← hW2]
  clear hW2
  go_wp2_with fail
  (with_reducible refine (unites_any _).mono ?_); rintro e w1 ⟨rfl, hb1⟩
  have HB1 := hid (below_next HB0.out hb1)
  have HX0 := hid (HS0.out.next HB1.out)
  have HX1 := hid (HS1.out.next HB1.out)
  have HW0 := hid (HV0.out.next hb1)
  have HW1 := hid (HV1.out.next hb1)
  clear hb1 HS0 HS1 HV0 HV1 HB0
  go_upto_region 3 with fail
  go_cut [] from 16 to 19 (fun wx => Hid (AR W.heap.size (W.heap.size + 1) W wx))
  case first =>
    have hlt0 := HW0.out.lt
    have hlt1 := HW1.out.lt
    have p0 : w1.cell? ⟨W.heap.size, 0, none⟩ = some (.slice A0 n0 c0) := HW0.out.cell 0
    have p1 : w1.cell? ⟨W.heap.size + 1, 0, none⟩ = some (.slice A1 n1 c1) := HW1.out.cell 0
    go_region_with (first
      | (go_at_call_of 18 (Value.slice A0 n0 c0); refine (near_any A0 s0 n0 c0 20 _ HN0.out (by exact HM0.out) (by first | exact HX0.out | exact HX0.out.next ((Below.refl _ _).drew)) (by omega) (by omega)).mono ?_; rintro e wA ⟨vA, ra, rfl, hoA, hbA, hcA, hlA, -⟩; obtain ⟨A2, c2, rfl, hrA⟩ := hoA.is; have V0A := Var.next (by exact HW0.out) hbA; have V1A := Var.next (by exact HW1.out) hbA; have q0 := V0A.cell 0; have q1 := V1A.cell 0)
      | (go_at_call_of 18 (Value.slice A1 n1 c1); refine (near_any A1 s1 n1 c1 20 _ HN1.out (by exact HM1.out) (by first | exact Runs.next (by first | exact HX1.out | exact HX1.out.next ((Below.refl _ _).drew)) hbA | exact (Runs.next (by first | exact HX1.out | exact HX1.out.next ((Below.refl _ _).drew)) hbA).next ((Below.refl _ _).drew)) (by omega) (by omega)).mono ?_; rintro e wB ⟨vB, rb, rfl, hoB, hbB, hcB, hlB, -⟩; obtain ⟨A3, c3, rfl, hrB⟩ := hoB.is; have V0B := Var.next (by exact V0A) hbB; have V1B := Var.next (by exact V1A) hbB; have g0 := V0B.cell 0; have g1 := V1B.cell 0; have f0 := V0B.free 0; have f1 := V1B.free 0; have f2 := (V1B.far (p := ⟨W.heap.size, 0, none⟩) (by show W.heap.size + 1 ≠ W.heap.size; omega) (.slice A2 ra.length c2)).free 0; have g2 := (V1B.far (p := ⟨W.heap.size, 0, none⟩) (by show W.heap.size + 1 ≠ W.heap.size; omega) (.slice A2 ra.length c2)).cell 0))
    all_goals (go_wp2_with fail; go_meet; exact hid (areas_end (by exact HW0.out) (by exact HW1.out) (by first | exact HB1.out | exact HB1.out.drew) hoA hbA (by first | exact Below.refl _ _ | exact (Below.refl _ _).drew) hoB hbB hcA hcB hlA hlB))
  case rest =>
    obtain ⟨A2, l, c2, xs, A3, l2, c3, ys, p0_0, p1_0, hl, hl2, hlb, hlb2, hX, hY, hcx, hcy, hB, hb1_0, hb2_0⟩ := hcut.out
    have HL := hid hl
    have HL2 := hid hl2
    have HX0 := hid hX
    have HY0 := hid hY
    have HC := hid hcx
    have HC2 := hid hcy
    have HB0 := hid hB
    clear hcut hl hl2 hX hY hcx hcy hB
    go_wp2_with fail
    (with_reducible refine (area_any A2 xs l c2 _ HL.out HX0.out HC.out).mono ?_); rintro e w2 ⟨rfl, hb⟩
    have HB1 := hid (below_next HB0.out hb)
    have p0_1 := (hb.cell (p := ⟨W.heap.size, 0, none⟩) hb1_0).trans p0_0
    have p1_1 := (hb.cell (p := ⟨W.heap.size + 1, 0, none⟩) hb2_0).trans p1_0
    have hb1_1 := Nat.lt_of_lt_of_le hb1_0 hb.size
    have hb2_1 := Nat.lt_of_lt_of_le hb2_0 hb.size
    have HX1 := hid (HX0.out.next hb)
    have HY1 := hid (HY0.out.next hb)
    clear hb HB0 HX0 HY0 p0_0 p1_0 hb1_0 hb2_0
    go_wp2_with fail
    (with_reducible refine (area_any A3 ys l2 c3 _ HL2.out HY1.out HC2.out).mono ?_); rintro e w3 ⟨rfl, hb⟩
    have HB2 := hid (below_next HB1.out hb)
    have p0_2 := (hb.cell (p := ⟨W.heap.size, 0, none⟩) hb1_1).trans p0_1
    have p1_2 := (hb.cell (p := ⟨W.heap.size + 1, 0, none⟩) hb2_1).trans p1_1
    have hb1_2 := Nat.lt_of_lt_of_le hb1_1 hb.size
    have hb2_2 := Nat.lt_of_lt_of_le hb2_1 hb.size
    have HX2 := hid (HX1.out.next hb)
    have HY2 := hid (HY1.out.next hb)
    clear hb HB1 HX1 HY1 p0_1 p1_1 hb1_1 hb2_1
    go_wp2_with fail
    (with_reducible refine (areaf_union _ _ A2 A3 l c2 l2 c3 xs ys _ p0_2 p1_2 HL.out HL2.out hlb hlb2 HX2.out HY2.out HC.out HC2.out).mono ?_); rintro e w4 ⟨ru, rfl, hop, hb⟩
    have HOru := hid hop
    clear hop
    have HB3 := hid (below_next HB2.out hb)
    have p0_3 := (hb.cell (p := ⟨W.heap.size, 0, none⟩) hb1_2).trans p0_2
    have p1_3 := (hb.cell (p := ⟨W.heap.size + 1, 0, none⟩) hb2_2).trans p1_2
    have hb1_3 := Nat.lt_of_lt_of_le hb1_2 hb.size
    have hb2_3 := Nat.lt_of_lt_of_le hb2_2 hb.size
    have HX3 := hid (HX2.out.next hb)
    have HY3 := hid (HY2.out.next hb)
    clear hb HB2 HX2 HY2 p0_2 p1_2 hb1_2 hb2_2
    go_wp2_with fail
    (with_reducible refine (areaf_inter _ _ A2 A3 l c2 l2 c3 xs ys _ p0_3 p1_3 HL.out HL2.out hlb hlb2 HX3.out HY3.out HC.out HC2.out).mono ?_); rintro e w5 ⟨ri, rfl, hop, hb⟩
    have HOri := hid hop
    clear hop
    have HB4 := hid (below_next HB3.out hb)
    have p0_4 := (hb.cell (p := ⟨W.heap.size, 0, none⟩) hb1_3).trans p0_3
    have p1_4 := (hb.cell (p := ⟨W.heap.size + 1, 0, none⟩) hb2_3).trans p1_3
    have hb1_4 := Nat.lt_of_lt_of_le hb1_3 hb.size
    have hb2_4 := Nat.lt_of_lt_of_le hb2_3 hb.size
    have HX4 := hid (HX3.out.next hb)
    have HY4 := hid (HY3.out.next hb)
    clear hb HB3 HX3 HY3 p0_3 p1_3 hb1_3 hb2_3
    go_wp2_with fail
    (with_reducible refine (areaf_minus _ _ A2 A3 l c2 l2 c3 xs ys _ p0_4 p1_4 HL.out HL2.out hlb hlb2 HX4.out HY4.out HC.out HC2.out).mono ?_); rintro e w6 ⟨rd, rfl, hop, hb⟩
    have HOrd := hid hop
    clear hop
    have HB5 := hid (below_next HB4.out hb)
    have p0_5 := (hb.cell (p := ⟨W.heap.size, 0, none⟩) hb1_4).trans p0_4
    have p1_5 := (hb.cell (p := ⟨W.heap.size + 1, 0, none⟩) hb2_4).trans p1_4
    have hb1_5 := Nat.lt_of_lt_of_le hb1_4 hb.size
    have hb2_5 := Nat.lt_of_lt_of_le hb2_4 hb.size
    have HX5 := hid (HX4.out.next hb)
    have HY5 := hid (HY4.out.next hb)
    clear hb HB4 HX4 HY4 p0_4 p1_4 hb1_4 hb2_4
    go_wp2_with fail
    (with_reducible refine (areaf_xor _ _ A2 A3 l c2 l2 c3 xs ys _ p0_5 p1_5 HL.out HL2.out hlb hlb2 HX5.out HY5.out HC.out HC2.out).mono ?_); rintro e w7 ⟨rx, rfl, hop, hb⟩
    have HOrx := hid hop
    clear hop
    have HB6 := hid (below_next HB5.out hb)
    have p0_6 := (hb.cell (p := ⟨W.heap.size, 0, none⟩) hb1_5).trans p0_5
    have p1_6 := (hb.cell (p := ⟨W.heap.size + 1, 0, none⟩) hb2_5).trans p1_5
    have hb1_6 := Nat.lt_of_lt_of_le hb1_5 hb.size
    have hb2_6 := Nat.lt_of_lt_of_le hb2_5 hb.size
    have HX6 := hid (HX5.out.next hb)
    have HY6 := hid (HY5.out.next hb)
    clear hb HB5 HX5 HY5 p0_5 p1_5 hb1_5 hb2_5
    obtain ⟨a1, a2, a3⟩ := areas HC.out HC2.out HOru.out HOri.out HOrd.out HOrx.out
    obtain ⟨x0, x1⟩ := areaL_big HC.out
    obtain ⟨y0, y1⟩ := areaL_big HC2.out
    obtain ⟨i0, i1⟩ := areaL_big HOri.out.v
    rw [a3, a2, a1]
    clear a1 a2 a3
    generalize areaL xs = M at x0 x1 ⊢
    generalize areaL ys = N at y0 y1 ⊢
    generalize areaL ri = I at i0 i1 ⊢
    clear p0_6 p1_6
    go_wp2_with fail
    go_ret
    exact ⟨rfl, HB6.out⟩

set_option maxRecDepth 100000 in
theorem lifted (os : Os) (started : os.Started) (H : Type) (enc : TypeId × Value → H) :
    ReturnsInHanded {} Try.checked os 4 .any (Rows.regionAreasSpec.pre6 enc Try.prog Try.f4 Rows.regionAreasRow.domain false) (Rows.regionAreasSpec.post enc Try.prog Try.f4 false true false false) := by
  refine returnsInHanded_of_change (C := Try.checked) own started (by kernel_rfl) Try.func4
    (ChangeSpec.witness6 (enc := enc) (C := Try.checked) false ⟨#[], #[.slice none 0 0, .slice none 0 0], []⟩ 8 (by kernel_rfl) (by kernel_rfl) (by kernel_rfl) (by kernel_rfl)) ?_
  intro W base args ds gs before hval0 hW hcnd _
  have hval : ∀ (j : Nat) t v, Try.f4.params[j]? = some t → args[j]? = some v → Value.okWide Try.prog W .any base t v := hval0
  have hW' := hW
  obtain ⟨p, q, hA0, hV, rfl, hfz, hnd⟩ := hW
  have hA : DataW.TrodAll enc Try.prog W 0 (fun _ => true) true Try.f4.params.toList args.toList ds p := hA0
  rw [Try.params4] at hA hval
  obtain ⟨v0, vs0, d0, ds0, p0, q0, hargs, rfl, rfl, h0, r0⟩ := trodAll_cons hA
  obtain ⟨v1, vs1, d1, ds1, p1, q1, rfl, rfl, rfl, h1, r1⟩ := trodAll_cons r0
  obtain ⟨rfl, rfl, rfl⟩ := trodAll_nil r1
  obtain rfl : args = #[v0, v1] := by cases args; simp_all
  obtain ⟨rfl, rfl⟩ := trodVars_none hV
  have k0 := h0
  have lt0 : ∀ x ∈ p0, x.block < W.heap.size := by obtain ⟨m, hm⟩ := k0; exact DataW.trod_lt m _ _ _ hm
  obtain ⟨A0, n0, c0, ss0, rfl, hn0, hs0, hm0⟩ := open_runs Try.underlying22 Try.underlying30 (by kernel_rfl) (by kernel_rfl) (by kernel_rfl) (hval 0 22 v0 rfl rfl) h0
  have k1 := h1
  have lt1 : ∀ x ∈ p1, x.block < W.heap.size := by obtain ⟨m, hm⟩ := k1; exact DataW.trod_lt m _ _ _ hm
  obtain ⟨A1, n1, c1, ss1, rfl, hn1, hs1, hm1⟩ := open_runs Try.underlying22 Try.underlying30 (by kernel_rfl) (by kernel_rfl) (by kernel_rfl) (hval 1 22 v1 rfl rfl) h1
  clear hA0 hval0
  refine (rest A0 n0 c0 ss0 A1 n1 c1 ss1 W hn0 hs0 hm0 hn1 hs1 hm1).mono fun e W' ⟨he, bel⟩ => ?_
  subst he
  exact ⟨_, rfl, _, _, _, [], _, [], hW', trodAll_mk1 (shut_bool Try.underlying4 _), (trodAll_cons_mk (Below.trod laidOut (by kernel_rfl) (of_decide_eq_true (by kernel_rfl)) k0 bel lt0) (trodAll_cons_mk (Below.trod laidOut (by kernel_rfl) (of_decide_eq_true (by kernel_rfl)) k1 bel lt1) trodAll_mk0)), rfl, bel.frame _, fun h => by cases h⟩

theorem over : Rows.regionAreasRow.holds Try.pinned (OpenSpec.ofChange Rows.regionAreasSpec) :=
  OpenClaim.holds_of_wide 4 Try.f4 rfl rfl rfl rfl rfl rfl rfl ⟨rfl, rfl, rfl, rfl, rfl⟩ rfl rfl rfl rfl rfl (by kernel_rfl) Try.func4 (by kernel_rfl)
    (of_decide_eq_true (by kernel_rfl)) (by unfold Func.isWrapper; first | (rw [if_pos (by decide +kernel)]; kernel_rfl) | (rw [if_neg (by decide +kernel)]; exact ⟨rfl, rfl⟩))
    (fun os started H enc _ => lifted os started H enc)

/-- The statement. -/
theorem proved : Rows.RegionAreasSaid := over
end Go.Proofs.Ytepnpnidbpaimaa.regionAreas
