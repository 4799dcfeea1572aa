/- The statement RasterTurnPixels returns true for all integers w, h and k and all bytes pix, and changes no argument; there is no further condition. -/
import Derived.Test.YtdjjijkdalpggaaRows
import Derived.WalkKit
import Derived.ProofKit
import Derived.OpenShut
import Derived.ShutString
import Derived.ChangeOld
import Derived.Below
import Derived.Test.YtdjjijkdalpggaaAlg
namespace Go.Proofs.Ytdjjijkdalpggaa.rasterTurnPixels
open Go Go.ChangeShapes Go.WideShapes Go.ChangeAt Go.RowKit
open Go.ChangeMaps (open_string shut_string)
set_option linter.unusedVariables false

theorem own : ownKnob Try.prog.godebug = none := by kernel_rfl
theorem laidOut : laidOutB Try.prog = true := by kernel_rfl

/-- WHAT THE WALK IS TOLD OF A SLICE OF INTEGERS THAT CAME IN: it is nil; or it leads to a row of 'cap' cells, the numbers 'zs' (the first 'len' are its elements, the rest its spare room), each fitting its kind. -/
def IsRow (k : IntKind) (w : World) (a : Option Addr) (len cap : Nat) (zs : List Int) : Prop :=
  (a = none ∧ len = 0 ∧ cap = 0 ∧ zs = []) ∨
  ∃ x, a = some x ∧ len ≤ cap ∧ cap ≤ maxLen ∧ zs.length = cap ∧ (∀ i, i < zs.length → w.cell? (x.add i) = some (.int k (zs.getD i 0))) ∧ ∀ n ∈ zs, (Lit.int k n).wf = true

set_option maxRecDepth 100000 in
set_option maxHeartbeats 4000000 in
theorem rest (a0 : Int) (a1 : Int) (a2 : Option Addr) (len2 cap2 : Nat) (z2 : List Int) (a3 : Int) (w : World) (w2 : Go.Proofs.Ytdjjijkdalpggaa.IsRow .u8 w a2 len2 cap2 z2) :
    Calls Try.prog 9 #[.int .i64 a0, .int .i64 a1, .slice a2 len2 cap2, .int .i64 a3] w fun e w' => e = .returned (.bool true) ∧ Below w.heap.size w w' := by
  have HR := hid w2
  clear w2
  go_enter Try.func9, Try.ntmps9
  go_wp2_with fail
  (with_reducible refine (known_any _).mono ?_); rintro e w1 ⟨rfl, hb1⟩
  go_wp2_with fail
  (with_reducible refine (smalll_any _ _ _ _ _ z2 _ (HR.out.below hb1)).mono ?_); rintro e v0 ⟨W, H, x0, c0, hW, hH, rfl, ho, hb2⟩
  have HB := hid (below_next hb1 hb2)
  have hW' : 1 ≤ W ∧ W ≤ 1024 := by omega
  have hH' : 1 ≤ H ∧ H ≤ 1024 := by omega
  have hN64 : W * H ≤ 8 * 8 := Nat.mul_le_mul hW.2 hH.2
  obtain ⟨F, hF⟩ : ∃ F, F = byXY W (sv len2 z2) := ⟨_, rfl⟩
  have hff : sv len2 z2 = flat W F := by rw [hF, flat_byXY]
  rw [hff] at ho
  obtain ⟨N, hN⟩ : ∃ N, N = W * H := ⟨_, rfl⟩
  rw [← hN] at ho hN64 ⊢
  have HN := hid hN
  have HOx0 := hid ho
  have m0 := ho.lt.2
  have hw0 := HB.out.size
  clear hb1 hb2 ho hF HR hff hN
  obtain ⟨r, hr⟩ : ∃ r : Nat, a3 % 4 = r := ⟨(a3 % 4).toNat, by omega⟩
  have hr4 : r < 4 := by omega
  have HRr := hid hr
  clear hr
  go_wp2_with fail
  (with_reducible refine (turn_n W H a3 r x0 N c0 F _ (by exact (HOx0.out.alloc _).px) hW' hH' HN.out (by have := HOx0.out.lt.2; first | omega | (simp; done) | (simp; omega) | (simp [World.setCell]; omega)) HRr.out).mono ?_); rintro e v1 ⟨x1, c1, rfl, o1, h1⟩
  have s1 : v0.heap.size < v1.heap.size := by have hh := h1.size; first | exact hh | (simp at hh; omega) | (simp [World.setCell] at hh; omega)
  have l1 : v0.heap.size < x1 := by have hh := o1.lt.1; first | exact hh | (simp at hh; omega) | (simp [World.setCell] at hh; omega)
  have m1 : x1 < v1.heap.size := o1.lt.2
  have Va := (Var3.new v0 (.int .i64 W) (.int .i64 H) (.slice (some ⟨x0, 0, none⟩) (N) c0)).below h1 (by simp)
  have HVa := hid Va
  clear Va
  have Ox0 := (HOx0.out.alloc _).below h1 (by have := HOx0.out.lt.2; first | omega | (simp; done) | (simp; omega) | (simp [World.setCell]; omega))
  clear HOx0
  have HOx0 := hid Ox0
  clear Ox0
  have HOx1 := hid o1
  clear o1
  have B := below_next (below_alloc HB.out _) h1
  clear HB
  have HB := hid B
  clear B h1
  obtain ⟨qa0, qa1, qa2, qaf⟩ := HVa.out.read
  have ta := HVa.out.lt
  go_wp2_with fail
  clear qa0 qa1 qa2 qaf ta
  (with_reducible refine (mirror_any W H x0 N c0 F _ (by exact (HOx0.out.alloc _).px) hW' hH' HN.out (by have := HOx0.out.lt.2; first | omega | (simp; done) | (simp; omega) | (simp [World.setCell]; omega))).mono ?_); rintro e v2 ⟨x2, c2, rfl, o2, h2⟩
  have s2 : v1.heap.size < v2.heap.size := by have hh := h2.size; first | exact hh | (simp at hh; omega) | (simp [World.setCell] at hh; omega)
  have l2 : v1.heap.size < x2 := by have hh := o2.lt.1; first | exact hh | (simp at hh; omega) | (simp [World.setCell] at hh; omega)
  have m2 : x2 < v2.heap.size := o2.lt.2
  have Va := (HVa.out.alloc _).below h2 (by first | omega | (simp; done) | (simp; omega) | (simp [World.setCell]; omega))
  clear HVa
  have HVa := hid Va
  clear Va
  have Vb := (Var3.new v1 (.int .i64 (tW r W H : Nat)) (.int .i64 (tH r W H : Nat)) (.slice (some ⟨x1, 0, none⟩) (N) c1)).below h2 (by simp)
  have HVb := hid Vb
  clear Vb
  have neab : ¬ v0.heap.size = v1.heap.size := by omega
  have neba : ¬ v1.heap.size = v0.heap.size := by omega
  have Ox0 := (HOx0.out.alloc _).below h2 (by have := HOx0.out.lt.2; first | omega | (simp; done) | (simp; omega) | (simp [World.setCell]; omega))
  clear HOx0
  have HOx0 := hid Ox0
  clear Ox0
  have Ox1 := (HOx1.out.alloc _).below h2 (by have := HOx1.out.lt.2; first | omega | (simp; done) | (simp; omega) | (simp [World.setCell]; omega))
  clear HOx1
  have HOx1 := hid Ox1
  clear Ox1
  have HOx2 := hid o2
  clear o2
  have B := below_next (below_alloc HB.out _) h2
  clear HB
  have HB := hid B
  clear B h2
  obtain ⟨qa0, qa1, qa2, qaf⟩ := HVa.out.read
  have ta := HVa.out.lt
  obtain ⟨qb0, qb1, qb2, qbf⟩ := HVb.out.read
  have tb := HVb.out.lt
  go_wp2_with fail
  clear qa0 qa1 qa2 qaf ta qb0 qb1 qb2 qbf tb
  obtain ⟨u, hu⟩ : ∃ u, u = v2.alloc (.cells #[.int .i64 W, .int .i64 H, .slice (some ⟨x2, 0, none⟩) N c2] 25) := ⟨_, rfl⟩
  have Va : Var3 u v0.heap.size (.int .i64 W) (.int .i64 H) (.slice (some ⟨x0, 0, none⟩) N c0) := by rw [hu]; exact HVa.out.alloc _
  have Vb : Var3 u v1.heap.size (.int .i64 (tW r W H : Nat)) (.int .i64 (tH r W H : Nat)) (.slice (some ⟨x1, 0, none⟩) N c1) := by rw [hu]; exact HVb.out.alloc _
  have Vm : Var3 u v2.heap.size (.int .i64 W) (.int .i64 H) (.slice (some ⟨x2, 0, none⟩) N c2) := by rw [hu]; exact Var3.new _ _ _ _
  have P0 : Px u x0 0 N (flat W F) := by rw [hu]; exact (HOx0.out.alloc _).px
  have P1 : Px u x1 0 N (flat (tW r W H) (Turned r W H F)) := by rw [hu]; exact (HOx1.out.alloc _).px
  have P2 : Px u x2 0 N (flat W fun x y => F (W - 1 - x) y) := by rw [hu]; exact (HOx2.out.alloc _).px
  have BU : Below w.heap.size w u := by rw [hu]; exact below_alloc HB.out _
  have HP0 := hid P0
  have HP1 := hid P1
  have HP2 := hid P2
  have HBU := hid BU
  obtain ⟨a0', a1', a2', af⟩ := Va.read
  obtain ⟨b0', b1', b2', bf⟩ := Vb.read
  obtain ⟨m0', m1', m2', mf⟩ := Vm.read
  rw [← hu]
  clear Va Vb Vm P0 P1 P2 BU hu HVa HVb HOx0 HOx1 HOx2 HB
  obtain ⟨⟨tp1, tp2⟩, ⟨tp3, tp4⟩⟩ := tW_pos r W H hW' hH'
  go_loopw [79] (fun s79 wr => ∃ i : Nat, i ≤ N ∧ s79 = .int .i64 i ∧ Hid (∃ q, wr = u.drewN q)) (fun s79 _ => N - (intOf s79).toNat)
  case atStart => exact ⟨0, Nat.zero_le _, rfl, hid ⟨0, rfl⟩⟩
  case round =>
    obtain ⟨i, hi, rfl, HQ⟩ := hrel
    obtain ⟨q, rfl⟩ := HQ.out
    by_cases hlt : i < N
    · obtain ⟨X, hX⟩ : ∃ X, X = i % W := ⟨_, rfl⟩
      obtain ⟨Y, hY⟩ : ∃ Y, Y = i / W := ⟨_, rfl⟩
      have hXW : X < W := by rw [hX]; exact Nat.mod_lt _ (by omega)
      have hYH : Y < H := by rw [hY]; exact (Nat.div_lt_iff_lt_mul (by omega)).2 (by rw [Nat.mul_comm, ← HN.out]; exact hlt)
      obtain ⟨v, hv⟩ : ∃ v, v = F X Y := ⟨_, rfl⟩
      have cg : u.cell? ⟨x0, i, none⟩ = some (.int .u8 v) := by
        have := HP0.out i hlt
        rw [Nat.zero_add] at this
        rw [this, hv, hX, hY]; rfl
      have hle : Y * W + W ≤ N := by rw [HN.out, ← Nat.succ_mul, Nat.mul_comm W H]; exact Nat.mul_le_mul_right W hYH
      have ez : ((Y * W : Nat) : Int) = (Y : Int) * W := Int.natCast_mul _ _
      have p1 : (0 : Int) ≤ (Y : Int) * W := by omega
      have p2 : (Y : Int) * W + W ≤ N := by omega
      have ei : Y * W + W - 1 - X = Y * W + (W - 1 - X) := by omega
      have cm : u.cell? ⟨x2, Y * W + W - 1 - X, none⟩ = some (.int .u8 v) := by
        rw [ei]
        have := HP2.out (Y * W + (W - 1 - X)) (by omega)
        rw [Nat.zero_add] at this
        rw [this, flat_at _ _ (show W - 1 - X < W by omega), hv]
        exact congrArg (fun z => some (Value.int .u8 (F z Y))) (by omega)
      have hq1 : (i : Int) % (W : Int) = (X : Int) := by rw [hX, Int.natCast_emod]
      have hq2 : (i : Int) / (W : Int) = (Y : Int) := by rw [hY, Int.natCast_ediv]
      have hqa : (0 : Int) ≤ (i : Int) / (W : Int) := by rw [hq2]; omega
      have hqb : (i : Int) / (W : Int) ≤ 64 := by rw [hq2]; omega
      have HQ1 := hid hq1
      have HQ2 := hid hq2
      have HV := hid hv
      have hWz : (0 : Int) < (W : Int) := by omega
      have hk4 := tmod4 a3 r HRr.out
      obtain ⟨hk1, hk2, hk3⟩ := hk4
      clear hX hY ez ei hq1 hq2 hv HQ
      go_wp2_with fail
      go_quiet (fail)
      rw [HQ1.out, HQ2.out]
      clear hqa hqb
      go_wp2_with fail
      go_loop [16, 17, 18, 19, 20] (fun s16 s17 s18 s19 s20 => ∃ m x y : Nat, m ≤ r ∧ x < tW m W H ∧ y < tH m W H ∧ s16 = .int .i64 x ∧ s17 = .int .i64 y ∧ s18 = .int .i64 (tW m W H : Nat) ∧ s19 = .int .i64 (tH m W H : Nat) ∧ s20 = .int .i64 m ∧ Hid (Turned m W H F x y = v)) (fun _ _ _ _ s20 => r - (intOf s20).toNat)
      case atStart => exact ⟨0, X, Y, Nat.zero_le _, hXW, hYH, rfl, rfl, rfl, rfl, rfl, hid HV.out.symm⟩
      case round =>
        obtain ⟨m, x, y, hm, hx, hy, rfl, rfl, rfl, rfl, rfl, HT⟩ := hrel
        obtain ⟨⟨sp1, sp2⟩, ⟨sp3, sp4⟩⟩ := tW_pos m W H hW' hH'
        by_cases hmr : m < r
        · go_wp2
          obtain ⟨n1, n2, n3, n4, n5⟩ := turned_next m W H x y F (by omega) hx hy
          go_round
          case rel => exact ⟨m + 1, tH m W H - 1 - y, x, by omega, n1, n2, by rw [show ((tH m W H - 1 - y : Nat) : Int) = (tH m W H : Int) - 1 - y from by omega], rfl, by rw [n3], by rw [n4], by go_num, hid (n5.trans HT.out)⟩
          case measure => simp [intOf]; omega
        · obtain rfl : m = r := by omega
          have hle2 : y * tW m W H + tW m W H ≤ N := by
            have := Nat.mul_le_mul_right (tW m W H) (show y + 1 ≤ tH m W H from hy)
            rw [Nat.succ_mul, Nat.mul_comm (tH m W H), tW_mul] at this
            rw [HN.out]; exact this
          have ez2 : ((y * tW m W H : Nat) : Int) = (y : Int) * (tW m W H : Nat) := Int.natCast_mul _ _
          have p3 : (0 : Int) ≤ (y : Int) * (tW m W H : Nat) := by omega
          have p4 : (y : Int) * (tW m W H : Nat) + (tW m W H : Nat) ≤ N := by omega
          have ct : u.cell? ⟨x1, y * tW m W H + x, none⟩ = some (.int .u8 v) := by
            have := HP1.out (y * tW m W H + x) (by omega)
            rw [Nat.zero_add] at this
            rw [this, flat_at _ _ hx, HT.out]
          clear ez2
          go_wp2
          go_roundw
          case rel => exact ⟨i + 1, by omega, by go_num, hid ⟨_, rfl⟩⟩
          case measure => simp [intOf]; omega
    · go_wp2
      go_ret
      exact ⟨rfl, below_drewN HBU.out _⟩

theorem walk (a0 : Int) (a1 : Int) (a2 : Option Addr) (len2 cap2 : Nat) (z2 : List Int) (a3 : Int) (w : World) (w0 : (Lit.int .i64 a0).wf = true) (w1 : (Lit.int .i64 a1).wf = true) (w2 : IsRow .u8 w a2 len2 cap2 z2) (w3 : (Lit.int .i64 a3).wf = true) :
    Calls Try.prog 9 #[.int .i64 a0, .int .i64 a1, .slice a2 len2 cap2, .int .i64 a3] w fun e w' => e = .returned (.bool true) ∧ Below w.heap.size w w' := by
  exact rest a0 a1 a2 len2 cap2 z2 a3 w w2

set_option maxRecDepth 100000 in
theorem lifted (os : Os) (started : os.Started) (H : Type) (enc : TypeId × Value → H) :
    ReturnsInHanded {} Try.checked os 9 .any (Rows.rasterTurnPixelsSpec.pre6 enc Try.prog Try.f9 Rows.rasterTurnPixelsRow.domain false) (Rows.rasterTurnPixelsSpec.post enc Try.prog Try.f9 false true false false) := by
  refine returnsInHanded_of_change (C := Try.checked) own started (by kernel_rfl) Try.func9
    (ChangeSpec.witness6 (enc := enc) (C := Try.checked) false ⟨#[], #[.int .i64 0, .int .i64 0, .slice none 0 0, .int .i64 0], []⟩ 8 (by kernel_rfl) (by kernel_rfl) (by kernel_rfl) (by kernel_rfl)) ?_
  intro W base args ds gs before hval0 hW hcnd _
  have hval : ∀ (j : Nat) t v, Try.f9.params[j]? = some t → args[j]? = some v → Value.okWide Try.prog W .any base t v := hval0
  have hW' := hW
  obtain ⟨p, q, hA0, hV, rfl, hfz, hnd⟩ := hW
  have hA : DataW.TrodAll enc Try.prog W 0 (fun _ => true) true Try.f9.params.toList args.toList ds p := hA0
  rw [Try.params9] at hA hval
  obtain ⟨v0, vs0, d0, ds0, p0, q0, hargs, rfl, rfl, h0, r0⟩ := trodAll_cons hA
  obtain ⟨v1, vs1, d1, ds1, p1, q1, rfl, rfl, rfl, h1, r1⟩ := trodAll_cons r0
  obtain ⟨v2, vs2, d2, ds2, p2, q2, rfl, rfl, rfl, h2, r2⟩ := trodAll_cons r1
  obtain ⟨v3, vs3, d3, ds3, p3, q3, rfl, rfl, rfl, h3, r3⟩ := trodAll_cons r2
  obtain ⟨rfl, rfl, rfl⟩ := trodAll_nil r3
  obtain rfl : args = #[v0, v1, v2, v3] := by cases args; simp_all
  obtain ⟨rfl, rfl⟩ := trodVars_none hV
  obtain ⟨a0, rfl, rfl, rfl, w0⟩ := open_int Try.underlying3 (hval 0 3 v0 rfl rfl) h0
  obtain ⟨a1, rfl, rfl, rfl, w1⟩ := open_int Try.underlying3 (hval 1 3 v1 rfl rfl) h1
  obtain ⟨a2, len2, cap2, rfl⟩ := okWide_slice Try.underlying22 (hval 2 22 v2 rfl rfl)
  have k2 := h2
  have lt2 : ∀ x ∈ p2, x.block < W.heap.size := by obtain ⟨m, hm⟩ := k2; exact DataW.trod_lt m _ _ _ hm
  obtain ⟨z2, w2⟩ : ∃ zs, IsRow .u8 W a2 len2 cap2 zs := by
    obtain ⟨fuel, hf⟩ := h2
    rcases open_ints Try.underlying22 Try.underlying5 (by kernel_rfl) hf with ⟨hcs, _⟩ | ⟨x, l, c, zs, hcs, _, hl, hm, hz, _, hcell, hwz⟩
    · simp [Value.cells] at hcs
      obtain ⟨rfl, rfl, rfl⟩ := hcs
      exact ⟨[], .inl ⟨rfl, rfl, rfl, rfl⟩⟩
    · simp [Value.cells] at hcs
      obtain ⟨rfl, rfl, rfl⟩ := hcs
      exact ⟨zs, .inr ⟨_, rfl, hl, hm, by simpa using hz, hcell, hwz⟩⟩
  obtain ⟨a3, rfl, rfl, rfl, w3⟩ := open_int Try.underlying3 (hval 3 3 v3 rfl rfl) h3
  clear hA0 hval0
  refine (walk a0 a1 a2 len2 cap2 z2 a3 W w0 w1 w2 w3).mono fun e W' ⟨he, bel⟩ => ?_
  subst he
  exact ⟨_, rfl, _, _, _, [], _, [], hW', trodAll_mk1 (shut_bool Try.underlying4 _), (trodAll_cons_mk (shut_int Try.underlying3 w0) (trodAll_cons_mk (shut_int Try.underlying3 w1) (trodAll_cons_mk (Below.trod laidOut (by kernel_rfl) (of_decide_eq_true (by kernel_rfl)) k2 bel lt2) (trodAll_cons_mk (shut_int Try.underlying3 w3) trodAll_mk0)))), rfl, bel.frame _, fun h => by cases h⟩

theorem over : Rows.rasterTurnPixelsRow.holds Try.pinned (OpenSpec.ofChange Rows.rasterTurnPixelsSpec) :=
  OpenClaim.holds_of_wide 9 Try.f9 rfl rfl rfl rfl rfl rfl rfl ⟨rfl, rfl, rfl, rfl, rfl⟩ rfl rfl rfl rfl rfl (by kernel_rfl) Try.func9 (by kernel_rfl)
    (of_decide_eq_true (by kernel_rfl)) (by unfold Func.isWrapper; first | (rw [if_pos (by decide +kernel)]; kernel_rfl) | (rw [if_neg (by decide +kernel)]; exact ⟨rfl, rfl⟩))
    (fun os started H enc _ => lifted os started H enc)

/-- ████ THE STATEMENT ████ -/
theorem proved : Rows.RasterTurnPixelsSaid := over
end Go.Proofs.Ytdjjijkdalpggaa.rasterTurnPixels
