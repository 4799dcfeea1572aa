/- The statement RasterPastePixels returns true for all integers w, h, pw, ph, x and y and all bytes pix and other, and changes no argument; there is no further condition. -/
import Derived.Test.YtdjjijkdalpggaaRows
import Derived.WalkKit
import Derived.ProofKit
import Derived.OpenShut
import Derived.ShutString
import Derived.ChangeOld
import Derived.Below
import Derived.Test.YtdjjijkdalpggaaPaste
namespace Go.Proofs.Ytdjjijkdalpggaa.rasterPastePixels
open Go Go.ChangeShapes Go.WideShapes Go.ChangeAt Go.RowKit
open Go.ChangeMaps (open_string shut_string)
set_option linter.unusedVariables false

theorem own : ownKnob Try.prog.godebug = none := by kernel_rfl
theorem laidOut : laidOutB Try.prog = true := by kernel_rfl

/-- WHAT THE WALK IS TOLD OF A SLICE OF INTEGERS THAT CAME IN: it is nil; or it leads to a row of 'cap' cells, the numbers 'zs' (the first 'len' are its elements, the rest its spare room), each fitting its kind. -/
def IsRow (k : IntKind) (w : World) (a : Option Addr) (len cap : Nat) (zs : List Int) : Prop :=
  (a = none ∧ len = 0 ∧ cap = 0 ∧ zs = []) ∨
  ∃ x, a = some x ∧ len ≤ cap ∧ cap ≤ maxLen ∧ zs.length = cap ∧ (∀ i, i < zs.length → w.cell? (x.add i) = some (.int k (zs.getD i 0))) ∧ ∀ n ∈ zs, (Lit.int k n).wf = true

set_option maxRecDepth 100000 in
set_option maxHeartbeats 8000000 in
theorem rest (a0 : Int) (a1 : Int) (a2 : Option Addr) (len2 cap2 : Nat) (z2 : List Int) (a3 a4 : Int) (a5 : Option Addr) (len5 cap5 : Nat) (z5 : List Int) (x y : Int) (w : World) (w2 : Go.Proofs.Ytdjjijkdalpggaa.IsRow .u8 w a2 len2 cap2 z2) (w5 : Go.Proofs.Ytdjjijkdalpggaa.IsRow .u8 w a5 len5 cap5 z5) :
    Calls Try.prog 8 #[.int .i64 a0, .int .i64 a1, .slice a2 len2 cap2, .int .i64 a3, .int .i64 a4, .slice a5 len5 cap5, .int .i64 x, .int .i64 y] w fun e w' => e = .returned (.bool true) ∧ Below w.heap.size w w' := by
  have HR := hid w2
  have HR5 := hid w5
  clear w2 w5
  go_enter Try.func8, Try.ntmps8
  go_wp2_with fail
  (with_reducible refine (known_any _).mono ?_); rintro e w1 ⟨rfl, hb1⟩
  go_wp2_with fail
  (with_reducible refine (smalll_any _ _ _ _ _ z2 _ (HR.out.below hb1)).mono ?_); rintro e v0 ⟨W, H, x0, c0, hW, hH, rfl, ho, hb2⟩
  have HB0 := hid (below_next hb1 hb2)
  obtain ⟨F, hF⟩ : ∃ F, F = byXY W (sv len2 z2) := ⟨_, rfl⟩
  have hff : sv len2 z2 = flat W F := by rw [hF, flat_byXY]
  rw [hff] at ho
  have HO0 := hid ho
  clear hb1 hb2 ho hF hff
  go_wp2_with fail
  (with_reducible refine (smalll_any _ _ _ _ _ z5 _ (HR5.out.below HB0.out)).mono ?_); rintro e v1 ⟨PW, PH, x1, c1, hPW, hPH, rfl, ho1, hb3⟩
  have HB1 := hid (below_next HB0.out hb3)
  obtain ⟨P, hP⟩ : ∃ P, P = byXY PW (sv len5 z5) := ⟨_, rfl⟩
  have hpp : sv len5 z5 = flat PW P := by rw [hP, flat_byXY]
  rw [hpp] at ho1
  have HO1 := hid ho1
  have hO0 := HO0.out.below hb3 HO0.out.lt.2
  have HO0' := hid hO0
  have hW' : 1 ≤ W ∧ W ≤ 1024 := by omega
  have hH' : 1 ≤ H ∧ H ≤ 1024 := by omega
  have hPW' : 1 ≤ PW ∧ PW ≤ 1024 := by omega
  have hPH' : 1 ≤ PH ∧ PH ≤ 1024 := by omega
  have hN64 : W * H ≤ 8 * 8 := Nat.mul_le_mul hW.2 hH.2
  have hM64 : PW * PH ≤ 8 * 8 := Nat.mul_le_mul hPW.2 hPH.2
  obtain ⟨N, hN⟩ : ∃ N, N = W * H := ⟨_, rfl⟩
  have HN := hid hN
  obtain ⟨M, hM⟩ : ∃ M, M = PW * PH := ⟨_, rfl⟩
  have HM := hid hM
  rw [← hN] at hN64 hO0 HO0' ⊢
  rw [← hM] at hM64 ho1 HO1 ⊢
  have m0 := hO0.lt.2
  have m1 := ho1.lt.2
  have cap0 := hO0.cap
  have cap1 := ho1.cap
  have hw0 := HB1.out.size
  clear hb3 ho1 hO0 hP hpp hN hM HB0 HO0 HR HR5
  go_wp2_with fail
  obtain ⟨u, hu⟩ : ∃ u, u = (v1.alloc (.cells #[.int .i64 W, .int .i64 H, .slice (some ⟨x0, 0, none⟩) N c0] 25)).alloc (.cells #[.int .i64 PW, .int .i64 PH, .slice (some ⟨x1, 0, none⟩) M c1] 25) := ⟨_, rfl⟩
  have Va : Var3 u v1.heap.size (.int .i64 W) (.int .i64 H) (.slice (some ⟨x0, 0, none⟩) N c0) := by rw [hu]; exact (Var3.new _ _ _ _).alloc _
  have Vb : Var3 u (v1.heap.size + 1) (.int .i64 PW) (.int .i64 PH) (.slice (some ⟨x1, 0, none⟩) M c1) := by
    have := Var3.new (v1.alloc (.cells #[.int .i64 W, .int .i64 H, .slice (some ⟨x0, 0, none⟩) N c0] 25)) (.int .i64 PW) (.int .i64 PH) (.slice (some ⟨x1, 0, none⟩) M c1)
    rw [World.size_alloc] at this
    rw [hu]; exact this
  have O0 := (HO0'.out.alloc (.cells #[.int .i64 W, .int .i64 H, .slice (some ⟨x0, 0, none⟩) N c0] 25)).alloc (.cells #[.int .i64 PW, .int .i64 PH, .slice (some ⟨x1, 0, none⟩) M c1] 25)
  have O1 := (HO1.out.alloc (.cells #[.int .i64 W, .int .i64 H, .slice (some ⟨x0, 0, none⟩) N c0] 25)).alloc (.cells #[.int .i64 PW, .int .i64 PH, .slice (some ⟨x1, 0, none⟩) M c1] 25)
  have BU : Below w.heap.size w u := by rw [hu]; exact below_alloc (below_alloc HB1.out _) _
  rw [← hu] at O0 O1
  have hul : v1.heap.size + 2 ≤ u.heap.size := by rw [hu]; simp
  rw [← hu]
  have HVa := hid Va
  have HVb := hid Vb
  have HOa := hid O0
  have HOb := hid O1
  have HBU := hid BU
  clear Va Vb O0 O1 BU HO0' HO1 HB1 hu
  by_cases hxy : (-1024 ≤ x ∧ x ≤ 1024) ∧ (-1024 ≤ y ∧ y ≤ 1024)
  · have y1 : btwB x (-1024) 1024 = true := btw_yes hxy.1
    have y2 : btwB y (-1024) 1024 = true := btw_yes hxy.2
    (with_reducible refine (paste_ok W H PW PH x y x0 N c0 x1 M c1 F P _ HOa.out.px HOb.out.px (by omega) (by omega) hW' hH' HN.out hPW' hPH' HM.out hxy.1 hxy.2 cap1).mono ?_); rintro e v2 ⟨x2, c2, rfl, o2, h2⟩
    have hVa := HVa.out.below h2 HVa.out.lt
    have hVb := HVb.out.below h2 HVb.out.lt
    obtain ⟨qa0, qa1, qa2, qaf⟩ := hVa.read
    obtain ⟨qb0, qb1, qb2, qbf⟩ := hVb.read
    have ta := hVa.lt
    have tb := hVb.lt
    have P0 : Px v2 x0 0 N (flat W F) := (HOa.out.below h2 HOa.out.lt.2).px
    have P1 : Px v2 x1 0 M (flat PW P) := (HOb.out.below h2 HOb.out.lt.2).px
    have P2 : Px v2 x2 0 N (flat W (pasted x y PW PH H P F)) := o2.px
    have B2 := below_next HBU.out h2
    have HP0 := hid P0
    have HP1 := hid P1
    have HP2 := hid P2
    have HB2 := hid B2
    have l0 : x0 < v2.heap.size := by have := h2.size; omega
    have l1 : x1 < v2.heap.size := by have := h2.size; omega
    have l2 : x2 < v2.heap.size := o2.lt.2
    clear P0 P1 P2 B2 o2 h2 hVa hVb HVa HVb HOa HOb HBU
    go_wp2_with (go_at_call 24; (with_reducible refine (in_any _ _ _ _).mono ?_); rintro e w' ⟨rfl, rfl⟩)
    go_loopw [88] (fun s88 wr => ∃ i : Nat, i ≤ N ∧ s88 = .int .i64 i ∧ Hid (∃ q, wr = (v2.alloc (.cells #[.int .i64 W, .int .i64 H, .slice (some ⟨x2, 0, none⟩) N c2] 25)).drewN q)) (fun s88 _ => N - (intOf s88).toNat)
    case atStart => exact ⟨0, Nat.zero_le _, rfl, hid ⟨0, rfl⟩⟩
    case round =>
      clear y1 y2
      obtain ⟨i, hi, rfl, HQ⟩ := hrel
      obtain ⟨q, rfl⟩ := HQ.out
      by_cases hlt : i < N
      · obtain ⟨X, hX⟩ : ∃ X, X = i % W := ⟨_, rfl⟩
        obtain ⟨Y, hY⟩ : ∃ Y, Y = i / W := ⟨_, rfl⟩
        have hXW : X < W := by rw [hX]; exact Nat.mod_lt _ (by omega)
        have hYH : Y < H := by rw [hY]; exact (Nat.div_lt_iff_lt_mul (by omega)).2 (by rw [Nat.mul_comm, ← HN.out]; exact hlt)
        obtain ⟨f, hf⟩ : ∃ f, f = F X Y := ⟨_, rfl⟩
        obtain ⟨v, hv⟩ : ∃ v, v = pasted x y PW PH H P F X Y := ⟨_, rfl⟩
        have cg : v2.cell? ⟨x0, i, none⟩ = some (.int .u8 f) := by
          have := HP0.out i hlt
          rw [Nat.zero_add] at this
          rw [this, hf, hX, hY]; rfl
        have cv : v2.cell? ⟨x2, i, none⟩ = some (.int .u8 v) := by
          have := HP2.out i hlt
          rw [Nat.zero_add] at this
          rw [this, hv, hX, hY]; rfl
        have hq1 : (i : Int) % (W : Int) = (X : Int) := by rw [hX, Int.natCast_emod]
        have hq2 : (i : Int) / (W : Int) = (Y : Int) := by rw [hY, Int.natCast_ediv]
        have hra : (0 : Int) ≤ (i : Int) % (W : Int) := by rw [hq1]; omega
        have hrb : (i : Int) % (W : Int) ≤ 8 := by rw [hq1]; omega
        have hqa : (0 : Int) ≤ (i : Int) / (W : Int) := by rw [hq2]; omega
        have hqb : (i : Int) / (W : Int) ≤ 8 := by rw [hq2]; omega
        have HQ1 := hid hq1
        have HQ2 := hid hq2
        have HVV := hid hv
        have HFF := hid hf
        have hWz : (0 : Int) < (W : Int) := by omega
        clear hX hY hq1 hq2 hv hf HQ
        go_wp2_with fail
        go_quiet (fail)
        rw [HQ1.out, HQ2.out]
        clear hra hrb hqa hqb
        by_cases hin : (0 ≤ (X : Int) - x ∧ (X : Int) - x ≤ (PW : Int) - 1) ∧ (0 ≤ (Y : Int) - y ∧ (Y : Int) - y ≤ (PH : Int) - 1)
        · obtain ⟨U, hU⟩ : ∃ U : Nat, (X : Int) - x = U := ⟨((X : Int) - x).toNat, by omega⟩
          obtain ⟨T, hT⟩ : ∃ T : Nat, (Y : Int) - y = T := ⟨((Y : Int) - y).toNat, by omega⟩
          rw [hU, hT]
          have b1 : btwB (U : Int) 0 ((PW : Int) - 1) = true := btw_yes (by omega)
          have b2 : btwB (T : Int) 0 ((PH : Int) - 1) = true := btw_yes (by omega)
          have hUP : U < PW := by omega
          have hTP : T < PH := by omega
          have hle : T * PW + PW ≤ M := by rw [HM.out, ← Nat.succ_mul, Nat.mul_comm PW PH]; exact Nat.mul_le_mul_right PW hTP
          have ez : ((T * PW : Nat) : Int) = (T : Int) * PW := Int.natCast_mul _ _
          have p1 : (0 : Int) ≤ (T : Int) * PW := by omega
          have p2 : (T : Int) * PW + PW ≤ M := by omega
          have cp : v2.cell? ⟨x1, T * PW + U, none⟩ = some (.int .u8 v) := by
            have := HP1.out (T * PW + U) (by omega)
            rw [Nat.zero_add] at this
            rw [this, flat_at P T hUP, HVV.out]
            unfold pasted
            rw [if_pos (by omega)]
            exact congrArg (fun z => some (Value.int .u8 z)) (congr (congrArg P (by omega)) (by omega))
          clear ez hU hT hin
          go_wp2_with (go_at_call 24; (with_reducible refine (in_any _ _ _ _).mono ?_); rintro e w' ⟨rfl, rfl⟩)
          go_roundw
          case rel => exact ⟨i + 1, by omega, by go_num, hid ⟨_, rfl⟩⟩
          case measure => simp [intOf]; omega
        · have hvf : v = f := by
            rw [HVV.out, HFF.out]
            unfold pasted
            rw [if_neg (by omega)]
          subst hvf
          obtain ⟨U, hU⟩ : ∃ U : Int, (X : Int) - x = U := ⟨_, rfl⟩
          obtain ⟨T, hT⟩ : ∃ T : Int, (Y : Int) - y = T := ⟨_, rfl⟩
          rw [hU, hT]
          have hb : btwB U 0 ((PW : Int) - 1) = false ∨ btwB U 0 ((PW : Int) - 1) = true ∧ btwB T 0 ((PH : Int) - 1) = false := by
            by_cases h1 : 0 ≤ U ∧ U ≤ (PW : Int) - 1
            · exact .inr ⟨btw_yes h1, btw_no (by omega)⟩
            · exact .inl (btw_no h1)
          clear hU hT hin
          rcases hb with b1 | ⟨b1, b2⟩
          all_goals
            go_wp2_with (go_at_call 24; (with_reducible refine (in_any _ _ _ _).mono ?_); rintro e w' ⟨rfl, rfl⟩)
            go_roundw
            case rel => exact ⟨i + 1, by omega, by go_num, hid ⟨_, rfl⟩⟩
            case measure => simp [intOf]; omega
      · go_wp2
        go_ret
        exact ⟨rfl, below_drewN (below_alloc HB2.out _) _⟩
  · have hb : btwB x (-1024) 1024 = false ∨ btwB x (-1024) 1024 = true ∧ btwB y (-1024) 1024 = false := by
      by_cases h1 : -1024 ≤ x ∧ x ≤ 1024
      · exact .inr ⟨btw_yes h1, btw_no (fun h => hxy ⟨h1, h⟩)⟩
      · exact .inl (btw_no h1)
    have HXY := hid hb
    clear hxy hb
    (with_reducible refine (paste_range W H PW PH x y x0 N c0 x1 M c1 _ hW' hH' HN.out hPW' hPH' HM.out HXY.out).mono ?_); rintro e v2 ⟨rfl, h2⟩
    have HB2 := hid (below_next HBU.out h2)
    clear h2
    rcases HXY.out with y1 | ⟨y1, y2⟩
    all_goals
      clear HXY
      go_wp2_with (go_at_call 24; (with_reducible refine (in_any _ _ _ _).mono ?_); rintro e w' ⟨rfl, rfl⟩)
      go_ret
      exact ⟨rfl, below_alloc HB2.out _⟩

theorem walk (a0 : Int) (a1 : Int) (a2 : Option Addr) (len2 cap2 : Nat) (z2 : List Int) (a3 : Int) (a4 : Int) (a5 : Option Addr) (len5 cap5 : Nat) (z5 : List Int) (a6 : Int) (a7 : Int) (w : World) (w0 : (Lit.int .i64 a0).wf = true) (w1 : (Lit.int .i64 a1).wf = true) (w2 : IsRow .u8 w a2 len2 cap2 z2) (w3 : (Lit.int .i64 a3).wf = true) (w4 : (Lit.int .i64 a4).wf = true) (w5 : IsRow .u8 w a5 len5 cap5 z5) (w6 : (Lit.int .i64 a6).wf = true) (w7 : (Lit.int .i64 a7).wf = true) :
    Calls Try.prog 8 #[.int .i64 a0, .int .i64 a1, .slice a2 len2 cap2, .int .i64 a3, .int .i64 a4, .slice a5 len5 cap5, .int .i64 a6, .int .i64 a7] w fun e w' => e = .returned (.bool true) ∧ Below w.heap.size w w' := by
  exact rest a0 a1 a2 len2 cap2 z2 a3 a4 a5 len5 cap5 z5 a6 a7 w w2 w5

set_option maxRecDepth 100000 in
theorem lifted (os : Os) (started : os.Started) (H : Type) (enc : TypeId × Value → H) :
    ReturnsInHanded {} Try.checked os 8 .any (Rows.rasterPastePixelsSpec.pre6 enc Try.prog Try.f8 Rows.rasterPastePixelsRow.domain false) (Rows.rasterPastePixelsSpec.post enc Try.prog Try.f8 false true false false) := by
  refine returnsInHanded_of_change (C := Try.checked) own started (by kernel_rfl) Try.func8
    (ChangeSpec.witness6 (enc := enc) (C := Try.checked) false ⟨#[], #[.int .i64 0, .int .i64 0, .slice none 0 0, .int .i64 0, .int .i64 0, .slice none 0 0, .int .i64 0, .int .i64 0], []⟩ 8 (by kernel_rfl) (by kernel_rfl) (by kernel_rfl) (by kernel_rfl)) ?_
  intro W base args ds gs before hval0 hW hcnd _
  have hval : ∀ (j : Nat) t v, Try.f8.params[j]? = some t → args[j]? = some v → Value.okWide Try.prog W .any base t v := hval0
  have hW' := hW
  obtain ⟨p, q, hA0, hV, rfl, hfz, hnd⟩ := hW
  have hA : DataW.TrodAll enc Try.prog W 0 (fun _ => true) true Try.f8.params.toList args.toList ds p := hA0
  rw [Try.params8] at hA hval
  obtain ⟨v0, vs0, d0, ds0, p0, q0, hargs, rfl, rfl, h0, r0⟩ := trodAll_cons hA
  obtain ⟨v1, vs1, d1, ds1, p1, q1, rfl, rfl, rfl, h1, r1⟩ := trodAll_cons r0
  obtain ⟨v2, vs2, d2, ds2, p2, q2, rfl, rfl, rfl, h2, r2⟩ := trodAll_cons r1
  obtain ⟨v3, vs3, d3, ds3, p3, q3, rfl, rfl, rfl, h3, r3⟩ := trodAll_cons r2
  obtain ⟨v4, vs4, d4, ds4, p4, q4, rfl, rfl, rfl, h4, r4⟩ := trodAll_cons r3
  obtain ⟨v5, vs5, d5, ds5, p5, q5, rfl, rfl, rfl, h5, r5⟩ := trodAll_cons r4
  obtain ⟨v6, vs6, d6, ds6, p6, q6, rfl, rfl, rfl, h6, r6⟩ := trodAll_cons r5
  obtain ⟨v7, vs7, d7, ds7, p7, q7, rfl, rfl, rfl, h7, r7⟩ := trodAll_cons r6
  obtain ⟨rfl, rfl, rfl⟩ := trodAll_nil r7
  obtain rfl : args = #[v0, v1, v2, v3, v4, v5, v6, v7] := by cases args; simp_all
  obtain ⟨rfl, rfl⟩ := trodVars_none hV
  obtain ⟨a0, rfl, rfl, rfl, w0⟩ := open_int Try.underlying3 (hval 0 3 v0 rfl rfl) h0
  obtain ⟨a1, rfl, rfl, rfl, w1⟩ := open_int Try.underlying3 (hval 1 3 v1 rfl rfl) h1
  obtain ⟨a2, len2, cap2, rfl⟩ := okWide_slice Try.underlying22 (hval 2 22 v2 rfl rfl)
  have k2 := h2
  have lt2 : ∀ x ∈ p2, x.block < W.heap.size := by obtain ⟨m, hm⟩ := k2; exact DataW.trod_lt m _ _ _ hm
  obtain ⟨z2, w2⟩ : ∃ zs, IsRow .u8 W a2 len2 cap2 zs := by
    obtain ⟨fuel, hf⟩ := h2
    rcases open_ints Try.underlying22 Try.underlying5 (by kernel_rfl) hf with ⟨hcs, _⟩ | ⟨x, l, c, zs, hcs, _, hl, hm, hz, _, hcell, hwz⟩
    · simp [Value.cells] at hcs
      obtain ⟨rfl, rfl, rfl⟩ := hcs
      exact ⟨[], .inl ⟨rfl, rfl, rfl, rfl⟩⟩
    · simp [Value.cells] at hcs
      obtain ⟨rfl, rfl, rfl⟩ := hcs
      exact ⟨zs, .inr ⟨_, rfl, hl, hm, by simpa using hz, hcell, hwz⟩⟩
  obtain ⟨a3, rfl, rfl, rfl, w3⟩ := open_int Try.underlying3 (hval 3 3 v3 rfl rfl) h3
  obtain ⟨a4, rfl, rfl, rfl, w4⟩ := open_int Try.underlying3 (hval 4 3 v4 rfl rfl) h4
  obtain ⟨a5, len5, cap5, rfl⟩ := okWide_slice Try.underlying22 (hval 5 22 v5 rfl rfl)
  have k5 := h5
  have lt5 : ∀ x ∈ p5, x.block < W.heap.size := by obtain ⟨m, hm⟩ := k5; exact DataW.trod_lt m _ _ _ hm
  obtain ⟨z5, w5⟩ : ∃ zs, IsRow .u8 W a5 len5 cap5 zs := by
    obtain ⟨fuel, hf⟩ := h5
    rcases open_ints Try.underlying22 Try.underlying5 (by kernel_rfl) hf with ⟨hcs, _⟩ | ⟨x, l, c, zs, hcs, _, hl, hm, hz, _, hcell, hwz⟩
    · simp [Value.cells] at hcs
      obtain ⟨rfl, rfl, rfl⟩ := hcs
      exact ⟨[], .inl ⟨rfl, rfl, rfl, rfl⟩⟩
    · simp [Value.cells] at hcs
      obtain ⟨rfl, rfl, rfl⟩ := hcs
      exact ⟨zs, .inr ⟨_, rfl, hl, hm, by simpa using hz, hcell, hwz⟩⟩
  obtain ⟨a6, rfl, rfl, rfl, w6⟩ := open_int Try.underlying3 (hval 6 3 v6 rfl rfl) h6
  obtain ⟨a7, rfl, rfl, rfl, w7⟩ := open_int Try.underlying3 (hval 7 3 v7 rfl rfl) h7
  clear hA0 hval0
  refine (walk a0 a1 a2 len2 cap2 z2 a3 a4 a5 len5 cap5 z5 a6 a7 W w0 w1 w2 w3 w4 w5 w6 w7).mono fun e W' ⟨he, bel⟩ => ?_
  subst he
  exact ⟨_, rfl, _, _, _, [], _, [], hW', trodAll_mk1 (shut_bool Try.underlying4 _), (trodAll_cons_mk (shut_int Try.underlying3 w0) (trodAll_cons_mk (shut_int Try.underlying3 w1) (trodAll_cons_mk (Below.trod laidOut (by kernel_rfl) (of_decide_eq_true (by kernel_rfl)) k2 bel lt2) (trodAll_cons_mk (shut_int Try.underlying3 w3) (trodAll_cons_mk (shut_int Try.underlying3 w4) (trodAll_cons_mk (Below.trod laidOut (by kernel_rfl) (of_decide_eq_true (by kernel_rfl)) k5 bel lt5) (trodAll_cons_mk (shut_int Try.underlying3 w6) (trodAll_cons_mk (shut_int Try.underlying3 w7) trodAll_mk0)))))))), rfl, bel.frame _, fun h => by cases h⟩

theorem over : Rows.rasterPastePixelsRow.holds Try.pinned (OpenSpec.ofChange Rows.rasterPastePixelsSpec) :=
  OpenClaim.holds_of_wide 8 Try.f8 rfl rfl rfl rfl rfl rfl rfl ⟨rfl, rfl, rfl, rfl, rfl⟩ rfl rfl rfl rfl rfl (by kernel_rfl) Try.func8 (by kernel_rfl)
    (of_decide_eq_true (by kernel_rfl)) (by unfold Func.isWrapper; first | (rw [if_pos (by decide +kernel)]; kernel_rfl) | (rw [if_neg (by decide +kernel)]; exact ⟨rfl, rfl⟩))
    (fun os started H enc _ => lifted os started H enc)

/-- ████ THE STATEMENT ████ -/
theorem proved : Rows.RasterPastePixelsSaid := over
end Go.Proofs.Ytdjjijkdalpggaa.rasterPastePixels
