/- The statement RasterCropPixels returns true for all integers w, h, x, y, cw and ch and all bytes pix, and changes no argument; there is no further condition. -/
import Derived.Test.YtdjjijkdalpggaaRows
import Derived.WalkKit
import Derived.ProofKit
import Derived.OpenShut
import Derived.ShutString
import Derived.ChangeOld
import Derived.Below
import Derived.Test.YtdjjijkdalpggaaAlg
import Derived.Test.YtdjjijkdalpggaaCrop
namespace Go.Proofs.Ytdjjijkdalpggaa.rasterCropPixels
open Go Go.ChangeShapes Go.WideShapes Go.ChangeAt Go.RowKit
open Go.ChangeMaps (open_string shut_string)
set_option linter.unusedVariables false

theorem own : ownKnob Try.prog.godebug = none := by kernel_rfl
theorem laidOut : laidOutB Try.prog = true := by kernel_rfl

/-- WHAT THE WALK IS TOLD OF A SLICE OF INTEGERS THAT CAME IN: it is nil; or it leads to a row of 'cap' cells, the numbers 'zs' (the first 'len' are its elements, the rest its spare room), each fitting its kind. -/
def IsRow (k : IntKind) (w : World) (a : Option Addr) (len cap : Nat) (zs : List Int) : Prop :=
  (a = none ∧ len = 0 ∧ cap = 0 ∧ zs = []) ∨
  ∃ x, a = some x ∧ len ≤ cap ∧ cap ≤ maxLen ∧ zs.length = cap ∧ (∀ i, i < zs.length → w.cell? (x.add i) = some (.int k (zs.getD i 0))) ∧ ∀ n ∈ zs, (Lit.int k n).wf = true

theorem no_part (x y cw ch : Int) (W H : Nat) (h : btwB cw 1 W = false ∨ (btwB cw 1 W = true ∧ btwB ch 1 H = false) ∨ (btwB cw 1 W = true ∧ btwB ch 1 H = true ∧ btwB x 0 (W - cw) = false) ∨ (btwB cw 1 W = true ∧ btwB ch 1 H = true ∧ btwB x 0 (W - cw) = true ∧ btwB y 0 (H - ch) = false)) :
    partB x cw W = false ∨ partB x cw W = true ∧ partB y ch H = false := by
  unfold btwB at h
  unfold partB
  simp only [Bool.and_eq_true, Bool.and_eq_false_iff, decide_eq_true_eq, decide_eq_false_iff_not] at h ⊢
  omega

theorem btw_cases (x y cw ch : Int) (W H : Nat) :
    (btwB cw 1 W = false ∨ (btwB cw 1 W = true ∧ btwB ch 1 H = false) ∨ (btwB cw 1 W = true ∧ btwB ch 1 H = true ∧ btwB x 0 (W - cw) = false) ∨ (btwB cw 1 W = true ∧ btwB ch 1 H = true ∧ btwB x 0 (W - cw) = true ∧ btwB y 0 (H - ch) = false)) ∨
    (btwB cw 1 W = true ∧ btwB ch 1 H = true ∧ btwB x 0 (W - cw) = true ∧ btwB y 0 (H - ch) = true) := by
  cases btwB cw 1 W <;> cases btwB ch 1 H <;> cases btwB x 0 (W - cw) <;> cases btwB y 0 (H - ch) <;> simp

set_option maxRecDepth 100000 in
set_option maxHeartbeats 8000000 in
theorem rest (a0 : Int) (a1 : Int) (a2 : Option Addr) (len2 cap2 : Nat) (z2 : List Int) (a3 : Int) (a4 : Int) (a5 : Int) (a6 : Int) (w : World) (w2 : Go.Proofs.Ytdjjijkdalpggaa.IsRow .u8 w a2 len2 cap2 z2) :
    Calls Try.prog 7 #[.int .i64 a0, .int .i64 a1, .slice a2 len2 cap2, .int .i64 a3, .int .i64 a4, .int .i64 a5, .int .i64 a6] w fun e w' => e = .returned (.bool true) ∧ Below w.heap.size w w' := by
  have HR := hid w2
  clear w2
  go_enter Try.func7, Try.ntmps7
  go_wp2_with fail
  (with_reducible refine (known_any _).mono ?_); rintro e w1 ⟨rfl, hb1⟩
  go_wp2_with fail
  (with_reducible refine (smalll_any _ _ _ _ _ z2 _ (HR.out.below hb1)).mono ?_); rintro e v0 ⟨W, H, x0, c0, hW, hH, rfl, ho, hb2⟩
  have HB := hid (below_next hb1 hb2)
  have hW' : 1 ≤ W ∧ W ≤ 1024 := by omega
  have hH' : 1 ≤ H ∧ H ≤ 1024 := by omega
  have hN64 : W * H ≤ 8 * 8 := Nat.mul_le_mul hW.2 hH.2
  obtain ⟨F, hF⟩ : ∃ F, F = byXY W (sv len2 z2) := ⟨_, rfl⟩
  have hff : sv len2 z2 = flat W F := by rw [hF, flat_byXY]
  rw [hff] at ho
  obtain ⟨N, hN⟩ : ∃ N, N = W * H := ⟨_, rfl⟩
  rw [← hN] at ho hN64 ⊢
  have HN := hid hN
  have HOx0 := hid ho
  have m0 := ho.lt.2
  have hcap := ho.cap
  have hw0 := HB.out.size
  clear hb1 hb2 ho hF HR hff hN
  go_wp2_with fail
  rcases btw_cases a3 a4 a5 a6 W H with hno | ⟨y1, y2, y3, y4⟩
  · have hnp := no_part a3 a4 a5 a6 W H hno
    have HNO := hid hno
    (with_reducible refine (crop_range W H a3 a4 a5 a6 x0 N c0 _ hW' hH' HN.out hnp).mono ?_); rintro e v1 ⟨rfl, h1⟩
    have hVa := (Var3.new v0 (.int .i64 W) (.int .i64 H) (.slice (some ⟨x0, 0, none⟩) N c0)).below h1 (by simp)
    obtain ⟨q0, q1, q2, qf⟩ := hVa.read
    have s1 := hVa.lt
    have HB1 := hid (below_next (below_alloc HB.out _) h1)
    clear h1 hVa hnp hno
    rcases HNO.out with g1 | ⟨g1, g2⟩ | ⟨g1, g2, g3⟩ | ⟨g1, g2, g3, g4⟩
    · clear HNO
      go_wp2_with (go_at_call 24; (with_reducible refine (in_any _ _ _ _).mono ?_); rintro e w' ⟨rfl, rfl⟩)
      go_ret
      exact ⟨rfl, below_alloc HB1.out _⟩
    · clear HNO
      have i1 := btw_iff.1 g1
      go_wp2_with (go_at_call 24; (with_reducible refine (in_any _ _ _ _).mono ?_); rintro e w' ⟨rfl, rfl⟩)
      go_ret
      exact ⟨rfl, below_alloc HB1.out _⟩
    · clear HNO
      have i1 := btw_iff.1 g1
      have i2 := btw_iff.1 g2
      go_wp2_with (go_at_call 24; (with_reducible refine (in_any _ _ _ _).mono ?_); rintro e w' ⟨rfl, rfl⟩)
      go_ret
      exact ⟨rfl, below_alloc HB1.out _⟩
    · clear HNO
      have i1 := btw_iff.1 g1
      have i2 := btw_iff.1 g2
      have i3 := btw_iff.1 g3
      go_wp2_with (go_at_call 24; (with_reducible refine (in_any _ _ _ _).mono ?_); rintro e w' ⟨rfl, rfl⟩)
      go_ret
      exact ⟨rfl, below_alloc HB1.out _⟩
  · have i1 := btw_iff.1 y1
    have i2 := btw_iff.1 y2
    have i3 := btw_iff.1 y3
    have i4 := btw_iff.1 y4
    obtain ⟨x, rfl⟩ := Int.eq_ofNat_of_zero_le (show 0 ≤ a3 by omega)
    obtain ⟨y, rfl⟩ := Int.eq_ofNat_of_zero_le (show 0 ≤ a4 by omega)
    obtain ⟨cw, rfl⟩ := Int.eq_ofNat_of_zero_le (show 0 ≤ a5 by omega)
    obtain ⟨ch, rfl⟩ := Int.eq_ofNat_of_zero_le (show 0 ≤ a6 by omega)
    have j1 : x + cw ≤ W := by omega
    have j2 : y + ch ≤ H := by omega
    have j3 : 1 ≤ cw := by omega
    have j4 : 1 ≤ ch := by omega
    (with_reducible refine (crop_ok W H x y cw ch x0 N c0 F _ (by exact (HOx0.out.alloc _).px) hW' hH' HN.out (by simp; omega) j1 j2 j3 j4 hcap.1 hcap.2).mono ?_); rintro e v1 ⟨x1, c1, rfl, o1, h1⟩
    have hVa := (Var3.new v0 (.int .i64 W) (.int .i64 H) (.slice (some ⟨x0, 0, none⟩) N c0)).below h1 (by simp)
    have hO0 := (HOx0.out.alloc (.cells #[.int .i64 W, .int .i64 H, .slice (some ⟨x0, 0, none⟩) N c0] 25)).below h1 (by simp; omega)
    have hB1 := below_next (below_alloc HB.out _) h1
    have s1 := hVa.lt
    have m1 := o1.lt.2
    have hM64 : cw * ch ≤ 8 * 8 := Nat.mul_le_mul (by omega) (by omega)
    have hMz : ((cw * ch : Nat) : Int) = (cw : Int) * ch := Int.natCast_mul _ _
    have mm1 : (0 : Int) ≤ (cw : Int) * ch := by omega
    have mm2 : (cw : Int) * ch ≤ 64 := by omega
    clear hMz
    obtain ⟨u, hu⟩ : ∃ u, u = v1.alloc (.cells #[.int .i64 cw, .int .i64 ch, .slice (some ⟨x1, 0, none⟩) (cw * ch) c1] 25) := ⟨_, rfl⟩
    have Va : Var3 u v0.heap.size (.int .i64 W) (.int .i64 H) (.slice (some ⟨x0, 0, none⟩) N c0) := by rw [hu]; exact hVa.alloc _
    have Vb : Var3 u v1.heap.size (.int .i64 cw) (.int .i64 ch) (.slice (some ⟨x1, 0, none⟩) (cw * ch) c1) := by rw [hu]; exact Var3.new _ _ _ _
    have P0 : Px u x0 0 N (flat W F) := by rw [hu]; exact (hO0.alloc _).px
    have P1 : Px u x1 0 (cw * ch) (flat cw fun i j => F (x + i) (y + j)) := by rw [hu]; exact (o1.alloc _).px
    have BU : Below w.heap.size w u := by rw [hu]; exact below_alloc hB1 _
    have HP0 := hid P0
    have HP1 := hid P1
    have HBU := hid BU
    have HVa := hid Va
    have HVb := hid Vb
    have hx0u : x0 < u.heap.size := by rw [hu]; have := hO0.lt.2; simp; omega
    have hx1u : x1 < u.heap.size := by rw [hu]; simp; omega
    obtain ⟨qa0, qa1, qa2, qaf⟩ := hVa.read
    have hv1 : v0.heap.size < v1.heap.size := s1
    clear P0 P1 BU hO0 hB1 o1 h1 hVa HB HOx0 i1 i2 i3 i4 Va Vb
    have HU := hid hu
    clear hu
    go_wp2_with (go_at_call 24; (with_reducible refine (in_any _ _ _ _).mono ?_); rintro e w' ⟨rfl, rfl⟩)
    clear qa0 qa1 qa2 qaf y1 y2 y3 y4
    rw [← HU.out]
    clear HU
    have HU : True := trivial
    go_loopw [18, 19, 20, 21] (fun s18 _ _ _ wr => ∃ j : Nat, j ≤ ch ∧ s18 = .int .i64 j ∧ Hid (Below u.heap.size u wr)) (fun s18 _ _ _ _ => ch - (intOf s18).toNat)
    case atStart => exact ⟨0, Nat.zero_le _, rfl, hid (Below.refl _ _)⟩
    case round =>
      obtain ⟨j, hj, rfl, HK⟩ := hrel
      by_cases hlt : j < ch
      · obtain ⟨wo, rfl⟩ : ∃ wo : World, wo = wr := ⟨_, rfl⟩
        go_wp2_with fail
        go_loopw [19, 20, 21] (fun s19 _ _ wr => ∃ i : Nat, i ≤ cw ∧ s19 = .int .i64 i ∧ Hid (Below u.heap.size u wr)) (fun s19 _ _ _ => cw - (intOf s19).toNat)
        case atStart => exact ⟨0, Nat.zero_le _, rfl, HK⟩
        case round =>
          clear HK
          obtain ⟨i, hi, rfl, HK⟩ := hrel
          by_cases hli : i < cw
          · have hb' := HVb.out.below HK.out HVb.out.lt
            obtain ⟨qb0, qb1, qb2, qbf⟩ := hb'.read
            obtain ⟨v, hv⟩ : ∃ v, v = F (x + i) (y + j) := ⟨_, rfl⟩
            have hat : ∀ w', Below u.heap.size u w' → Calls Try.prog 28 #[grid cw ch (.slice (some ⟨x1, 0, none⟩) (cw * ch) c1), .int .i64 i, .int .i64 j] w' fun e w'' => e = .returned (.tuple #[.int .u8 v, .int .i64 0]) ∧ Below w'.heap.size w' w'' := by
              intro w' hw'
              rw [hv]
              exact at_ok cw ch i j x1 (cw * ch) c1 (fun i j => F (x + i) (y + j)) w' (HP1.out.below hw' hx1u) (by omega) (by omega) rfl (Nat.lt_of_lt_of_le hx1u hw'.size) hli hlt
            have HAT := Lib.hid hat
            have hle : (y + j) * W + W ≤ N := by rw [HN.out, ← Nat.succ_mul, Nat.mul_comm W H]; exact Nat.mul_le_mul_right W (by omega)
            have ez : (((y + j) * W : Nat) : Int) = ((y : Int) + j) * W := by rw [Int.natCast_mul, Int.natCast_add]
            have p1 : (0 : Int) ≤ ((y : Int) + j) * W := by omega
            have p2 : ((y : Int) + j) * W + W ≤ N := by omega
            have cg : u.cell? ⟨x0, (y + j) * W + x + i, none⟩ = some (.int .u8 v) := by
              have := HP0.out ((y + j) * W + x + i) (by omega)
              rw [Nat.zero_add] at this
              rw [this, show (y + j) * W + x + i = (y + j) * W + (x + i) from by omega, flat_at F (y + j) (show x + i < W by omega), hv]
            have CG := hid cg
            clear hat ez hv cg hb'
            go_wp2_with fail
            (with_reducible refine (HAT.out _ HK.out).mono ?_); rintro e w3 ⟨rfl, h3⟩
            have hk3 := HK.out.trans (h3.mono HK.out.size)
            have HK3 := hid hk3
            have cg3 : w3.cell? ⟨x0, (y + j) * W + x + i, none⟩ = some (.int .u8 v) := (hk3.cell (p := ⟨x0, _, none⟩) hx0u).trans CG.out
            obtain ⟨qa0, qa1, qa2, qaf⟩ := (HVa.out.below hk3 HVa.out.lt).read
            clear h3 hk3 qb0 qb1 qb2 qbf
            go_wp2
            go_roundw
            case rel => exact ⟨i + 1, by omega, by go_num, HK3⟩
            case measure => simp [intOf]; omega
          · go_wp2
            go_roundw
            case rel => exact ⟨j + 1, by omega, by go_num, HK⟩
            case measure => simp [intOf]; omega
      · obtain ⟨qb0, qb1, qb2, qbf⟩ := (HVb.out.below HK.out HVb.out.lt).read
        go_wp2_with fail
        (with_reducible refine (at_range cw ch cw 0 x1 (cw * ch) c1 _ (by omega) (by omega) rfl (by omega)).mono ?_); rintro e w3 ⟨rfl, h3⟩
        go_wp2
        go_ret
        exact ⟨rfl, below_next (HBU.out.trans (HK.out.mono HBU.out.size)) h3⟩

theorem walk (a0 : Int) (a1 : Int) (a2 : Option Addr) (len2 cap2 : Nat) (z2 : List Int) (a3 : Int) (a4 : Int) (a5 : Int) (a6 : Int) (w : World) (w0 : (Lit.int .i64 a0).wf = true) (w1 : (Lit.int .i64 a1).wf = true) (w2 : IsRow .u8 w a2 len2 cap2 z2) (w3 : (Lit.int .i64 a3).wf = true) (w4 : (Lit.int .i64 a4).wf = true) (w5 : (Lit.int .i64 a5).wf = true) (w6 : (Lit.int .i64 a6).wf = true) :
    Calls Try.prog 7 #[.int .i64 a0, .int .i64 a1, .slice a2 len2 cap2, .int .i64 a3, .int .i64 a4, .int .i64 a5, .int .i64 a6] w fun e w' => e = .returned (.bool true) ∧ Below w.heap.size w w' := by
  exact rest a0 a1 a2 len2 cap2 z2 a3 a4 a5 a6 w w2

set_option maxRecDepth 100000 in
theorem lifted (os : Os) (started : os.Started) (H : Type) (enc : TypeId × Value → H) :
    ReturnsInHanded {} Try.checked os 7 .any (Rows.rasterCropPixelsSpec.pre6 enc Try.prog Try.f7 Rows.rasterCropPixelsRow.domain false) (Rows.rasterCropPixelsSpec.post enc Try.prog Try.f7 false true false false) := by
  refine returnsInHanded_of_change (C := Try.checked) own started (by kernel_rfl) Try.func7
    (ChangeSpec.witness6 (enc := enc) (C := Try.checked) false ⟨#[], #[.int .i64 0, .int .i64 0, .slice none 0 0, .int .i64 0, .int .i64 0, .int .i64 0, .int .i64 0], []⟩ 8 (by kernel_rfl) (by kernel_rfl) (by kernel_rfl) (by kernel_rfl)) ?_
  intro W base args ds gs before hval0 hW hcnd _
  have hval : ∀ (j : Nat) t v, Try.f7.params[j]? = some t → args[j]? = some v → Value.okWide Try.prog W .any base t v := hval0
  have hW' := hW
  obtain ⟨p, q, hA0, hV, rfl, hfz, hnd⟩ := hW
  have hA : DataW.TrodAll enc Try.prog W 0 (fun _ => true) true Try.f7.params.toList args.toList ds p := hA0
  rw [Try.params7] at hA hval
  obtain ⟨v0, vs0, d0, ds0, p0, q0, hargs, rfl, rfl, h0, r0⟩ := trodAll_cons hA
  obtain ⟨v1, vs1, d1, ds1, p1, q1, rfl, rfl, rfl, h1, r1⟩ := trodAll_cons r0
  obtain ⟨v2, vs2, d2, ds2, p2, q2, rfl, rfl, rfl, h2, r2⟩ := trodAll_cons r1
  obtain ⟨v3, vs3, d3, ds3, p3, q3, rfl, rfl, rfl, h3, r3⟩ := trodAll_cons r2
  obtain ⟨v4, vs4, d4, ds4, p4, q4, rfl, rfl, rfl, h4, r4⟩ := trodAll_cons r3
  obtain ⟨v5, vs5, d5, ds5, p5, q5, rfl, rfl, rfl, h5, r5⟩ := trodAll_cons r4
  obtain ⟨v6, vs6, d6, ds6, p6, q6, rfl, rfl, rfl, h6, r6⟩ := trodAll_cons r5
  obtain ⟨rfl, rfl, rfl⟩ := trodAll_nil r6
  obtain rfl : args = #[v0, v1, v2, v3, v4, v5, v6] := by cases args; simp_all
  obtain ⟨rfl, rfl⟩ := trodVars_none hV
  obtain ⟨a0, rfl, rfl, rfl, w0⟩ := open_int Try.underlying3 (hval 0 3 v0 rfl rfl) h0
  obtain ⟨a1, rfl, rfl, rfl, w1⟩ := open_int Try.underlying3 (hval 1 3 v1 rfl rfl) h1
  obtain ⟨a2, len2, cap2, rfl⟩ := okWide_slice Try.underlying22 (hval 2 22 v2 rfl rfl)
  have k2 := h2
  have lt2 : ∀ x ∈ p2, x.block < W.heap.size := by obtain ⟨m, hm⟩ := k2; exact DataW.trod_lt m _ _ _ hm
  obtain ⟨z2, w2⟩ : ∃ zs, IsRow .u8 W a2 len2 cap2 zs := by
    obtain ⟨fuel, hf⟩ := h2
    rcases open_ints Try.underlying22 Try.underlying5 (by kernel_rfl) hf with ⟨hcs, _⟩ | ⟨x, l, c, zs, hcs, _, hl, hm, hz, _, hcell, hwz⟩
    · simp [Value.cells] at hcs
      obtain ⟨rfl, rfl, rfl⟩ := hcs
      exact ⟨[], .inl ⟨rfl, rfl, rfl, rfl⟩⟩
    · simp [Value.cells] at hcs
      obtain ⟨rfl, rfl, rfl⟩ := hcs
      exact ⟨zs, .inr ⟨_, rfl, hl, hm, by simpa using hz, hcell, hwz⟩⟩
  obtain ⟨a3, rfl, rfl, rfl, w3⟩ := open_int Try.underlying3 (hval 3 3 v3 rfl rfl) h3
  obtain ⟨a4, rfl, rfl, rfl, w4⟩ := open_int Try.underlying3 (hval 4 3 v4 rfl rfl) h4
  obtain ⟨a5, rfl, rfl, rfl, w5⟩ := open_int Try.underlying3 (hval 5 3 v5 rfl rfl) h5
  obtain ⟨a6, rfl, rfl, rfl, w6⟩ := open_int Try.underlying3 (hval 6 3 v6 rfl rfl) h6
  clear hA0 hval0
  refine (walk a0 a1 a2 len2 cap2 z2 a3 a4 a5 a6 W w0 w1 w2 w3 w4 w5 w6).mono fun e W' ⟨he, bel⟩ => ?_
  subst he
  exact ⟨_, rfl, _, _, _, [], _, [], hW', trodAll_mk1 (shut_bool Try.underlying4 _), (trodAll_cons_mk (shut_int Try.underlying3 w0) (trodAll_cons_mk (shut_int Try.underlying3 w1) (trodAll_cons_mk (Below.trod laidOut (by kernel_rfl) (of_decide_eq_true (by kernel_rfl)) k2 bel lt2) (trodAll_cons_mk (shut_int Try.underlying3 w3) (trodAll_cons_mk (shut_int Try.underlying3 w4) (trodAll_cons_mk (shut_int Try.underlying3 w5) (trodAll_cons_mk (shut_int Try.underlying3 w6) trodAll_mk0))))))), rfl, bel.frame _, fun h => by cases h⟩

theorem over : Rows.rasterCropPixelsRow.holds Try.pinned (OpenSpec.ofChange Rows.rasterCropPixelsSpec) :=
  OpenClaim.holds_of_wide 7 Try.f7 rfl rfl rfl rfl rfl rfl rfl ⟨rfl, rfl, rfl, rfl, rfl⟩ rfl rfl rfl rfl rfl (by kernel_rfl) Try.func7 (by kernel_rfl)
    (of_decide_eq_true (by kernel_rfl)) (by unfold Func.isWrapper; first | (rw [if_pos (by decide +kernel)]; kernel_rfl) | (rw [if_neg (by decide +kernel)]; exact ⟨rfl, rfl⟩))
    (fun os started H enc _ => lifted os started H enc)

/-- ████ THE STATEMENT ████ -/
theorem proved : Rows.RasterCropPixelsSaid := over
end Go.Proofs.Ytdjjijkdalpggaa.rasterCropPixels
