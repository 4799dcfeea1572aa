/- Bounds of package region. -/
import Derived.Test.YtjehmjcalapaiaaChk
import Derived.Test.YtjehmjcalapaiaaCmb
import Derived.BigRegion
namespace Go.Proofs.Ytjehmjcalapaiaa
open Go Go.RowKit
set_option linter.unusedVariables false
set_option linter.unusedSimpArgs false

theorem ite_maxB (x y : Int) : (if x < y then y else x) = max x y := by rw [Int.max_def]; split <;> split <;> omega
theorem ite_minB (x y : Int) : (if y < x then y else x) = min x y := by rw [Int.min_def]; split <;> split <;> omega
attribute [local go_sem] ite_maxB ite_minB
def lx (x0 : Int) (ss : List Rn) : Int := ss.foldl (fun m r => min m r.a) x0
def hx (x0 : Int) (ss : List Rn) : Int := ss.foldl (fun m r => max m r.b) x0

theorem retPPr {fn : Func} {p q u : Tmp} {R : Ending → World → Prop} {tmps : Array Value} {w : World} {B B' : Nat} {s t : P2} {r : Int} (h : fn.results = #[.cell p 32, .cell q 32, .tmp u]) (hp : tmps.getD p undef = .pointer (some ⟨B, 0, none⟩)) (hq : tmps.getD q undef = .pointer (some ⟨B', 0, none⟩)) (hu : tmps.getD u undef = .int .i64 r)
    (hV : Var w B (pcel s) 32) (hV' : Var w B' (pcel t) 32) (hR : R (.returned (.tuple #[ptv s, ptv t, .int .i64 r])) w) : bodyPost Try.prog fn R .ret ⟨tmps, []⟩ w :=
  bodyPost_ret (v := .tuple #[ptv s, ptv t, .int .i64 r]) (by
    show (results fn tmps).run _ w = _
    obtain ⟨c0, c1, -⟩ := hV.read2
    obtain ⟨d0, d1, -⟩ := hV'.read2
    have e : (loadVar 32 ⟨B, 0, none⟩).run Try.prog w = .ok (ptv s) w := by simp [go_sem, c0, c1]
    have e' : (loadVar 32 ⟨B', 0, none⟩).run Try.prog w = .ok (ptv t) w := by simp [go_sem, d0, d1]
    rw [Array.getD_eq_getD_getElem?] at hp hq hu
    simp [results, h, hp, hq, hu, asAddr, e, e']) rfl hR

set_option maxHeartbeats 2000000 in
theorem bounds_ok (a : Addr) (ss : List Rn) (n c : Nat) (w : World) (hn : n = ss.length) (hn0 : 0 < n) (hs : Runs w (some a) ss) (hc : chk ss = 0) :
    Calls Try.prog 39 #[.slice (some a) n c] w fun e w' => (∃ r0 r1, ss[0]? = some r0 ∧ ss[n - 1]? = some r1 ∧ e = .returned (.tuple #[ptv ⟨lx r0.a ss, r0.y⟩, ptv ⟨hx r0.b ss, r1.y + 1⟩, .int .i64 0])) ∧ Below w.heap.size w w' := by
  have HS := hid hs
  have HN := hid hn
  have HC := hid hc
  have hnb : n ≤ 1000000000 := by rw [hn]; exact chk_len hc
  have HM := hid (show n ≤ maxLen by unfold maxLen; omega)
  clear hs hn hc
  obtain ⟨W, hW⟩ : ∃ W, W = (w.alloc (.cells #[.int .i64 0, .int .i64 0] 32)).alloc (.cells #[.int .i64 0, .int .i64 0] 32) := ⟨_, rfl⟩
  have HB0 := hid (show Below w.heap.size w W by rw [hW]; exact below_alloc (below_alloc (Below.refl _ w) _) _)
  have HV0 := hid (show Var W w.heap.size #[.int .i64 0, .int .i64 0] 32 by rw [hW]; exact (Var.new _ _ _ _ rfl).alloc _)
  have HV1 := hid (show Var W (w.heap.size + 1) #[.int .i64 0, .int .i64 0] 32 by rw [hW]; exact Var.new _ _ _ _ (by simp))
  go_enter Try.func39, Try.ntmps39
  go_upto_region 1 with fail
  rw [← hW]
  clear hW
  go_wp2_with fail
  (with_reducible refine (check_any (some a) ss n c _ HN.out HM.out (HS.out.next HB0.out)).mono ?_); rintro e w1 ⟨rfl, hb⟩
  have HB1 := hid (below_next HB0.out hb)
  have HR0 := hid (HV0.out.next hb)
  have HR1 := hid (HV1.out.next hb)
  clear hb HV0 HV1 HB0
  rw [HC.out]
  have hz : 0 < ss.length := by rw [← HN.out]; exact hn0
  have hz1 : n - 1 < ss.length := by rw [← HN.out]; omega
  obtain ⟨a', e1, hal, hf⟩ := (HS.out.next HB1.out).at_ hz
  cases e1
  obtain ⟨a', e1, -, hlst⟩ := (HS.out.next HB1.out).at_ hz1
  cases e1
  have H00 := hid (show ss[0]? = some ss[0] from List.getElem?_eq_getElem hz)
  have H01 := hid (show ss[n - 1]? = some ss[n - 1] from List.getElem?_eq_getElem hz1)
  generalize ss[0] = r0 at hf H00
  have HRY := hid (show -8192 ≤ ss[n - 1].y ∧ ss[n - 1].y ≤ 8191 from ((show ((-8192 ≤ ss[n - 1].y ∧ ss[n - 1].y ≤ 8191) ∧ (-8192 ≤ ss[n - 1].a ∧ ss[n - 1].a ≤ 8192) ∧ (-8192 ≤ ss[n - 1].b ∧ ss[n - 1].b ≤ 8192)) ∧ ss[n - 1].a < ss[n - 1].b from (chk_all HC.out).1 _ (List.getElem_mem hz1))).1.1)
  generalize ss[n - 1] = r1 at hlst HRY H01
  have hn1 : ¬ (n : Int) = 0 := by omega
  go_upto_region 6 with fail
  rename_i Kn hKn
  obtain ⟨c0, c1, c2⟩ := hf
  rw [show a.add (0 * 3) = a by unfold Addr.add; simp] at c0 c1 c2
  obtain ⟨d0, d1, d2⟩ := hlst
  have i0 : (0 : Int) ≤ (n : Int) - 1 := by omega
  have i1 : (n : Int) - 1 < (n : Int) := by omega
  have i2 : ((n : Int) - 1).toNat = n - 1 := by omega
  have i3 : (0 : Int) < (n : Int) := by omega
  have hal2 : (a.add ((n - 1) * 3)).block < w1.heap.size := by rw [add_block]; exact hal
  have hnb2 : n ≤ 1000000000 := hnb
  have key : ∀ (g6 g7 : Nat) (w2 : World), Var w2 g6 (cel r0) 43 → Var w2 g7 (cel r1) 43 → Below w1.heap.size w1 w2 → Kn { tmps := #[.slice (some a) n c, undef, .pointer (some ⟨w.heap.size, 0, none⟩), .pointer (some ⟨w.heap.size + 1, 0, none⟩), .int .i64 0, .int .i64 0, .pointer (some ⟨g6, 0, none⟩), .pointer (some ⟨g7, 0, none⟩), undef, undef, undef, undef, .slice (some a) n c, .int .i64 0, .int .i64 0, .bool false, undef, undef, undef, .slice (some a) n c, .int .i64 n, .bool ((n : Int) == 0), undef, undef, .slice (some a) n c, .pointer (some a), .agg #[.int .i64 r0.y, .int .i64 r0.a, .int .i64 r0.b], .slice (some a) n c, .slice (some a) n c, .int .i64 n, .int .i64 ((n : Int) - 1), .pointer (some (a.add ((n - 1) * 3))), .agg #[.int .i64 r1.y, .int .i64 r1.a, .int .i64 r1.b], undef, undef, undef, undef, undef, undef, undef, undef, undef, undef, undef, undef, undef, undef, undef, undef, undef, undef, undef, undef, undef, undef, undef, undef, undef, undef, undef, undef, undef, undef, undef, undef], defers := [] } w2 := by
    intro g6 g7 w2 hv6 hv7 hb2
    refine hKn _ _ ?_
    dsimp only
    have HB2 := hid hb2
    obtain ⟨x0, x1, x2, xf⟩ := hv6.read3
    obtain ⟨y0, y1, y2, yf⟩ := hv7.read3
    have hy : -100000 ≤ r1.y ∧ r1.y ≤ 100000 := by have := HRY.out; omega
    obtain ⟨hy1, hy2⟩ := hy
    have hl6 : g6 < w2.heap.size := hv6.lt
    have hl7 : g7 < w2.heap.size := hv7.lt
    clear hKn hv6 hv7 hb2 c0 c1 c2 d0 d1 d2 i0 i1 i2 i3 hal2
    go_upto_region 7 with fail
    rename_i Kn2 hKn2
    have key2 : ∀ (g8 g9 : Nat) (w3 : World), Var w3 g8 (pcel ⟨r0.a, r0.y⟩) 32 → Var w3 g9 (pcel ⟨r0.b, r1.y + 1⟩) 32 → g8 ≠ g9 → w1.heap.size ≤ g8 → w1.heap.size ≤ g9 → Below w1.heap.size w1 w3 → Kn2 { tmps := #[.slice (some a) n c, undef, .pointer (some ⟨w.heap.size, 0, none⟩), .pointer (some ⟨w.heap.size + 1, 0, none⟩), .int .i64 0, .int .i64 0, .pointer (some ⟨g6, 0, none⟩), .pointer (some ⟨g7, 0, none⟩), .pointer (some ⟨g8, 0, none⟩), .pointer (some ⟨g9, 0, none⟩), undef, undef, .slice (some a) n c, .int .i64 0, .int .i64 0, .bool false, undef, undef, undef, .slice (some a) n c, .int .i64 n, .bool ((n : Int) == 0), undef, undef, .slice (some a) n c, .pointer (some a), .agg #[.int .i64 r0.y, .int .i64 r0.a, .int .i64 r0.b], .slice (some a) n c, .slice (some a) n c, .int .i64 n, .int .i64 ((n : Int) - 1), .pointer (some (a.add ((n - 1) * 3))), .agg #[.int .i64 r1.y, .int .i64 r1.a, .int .i64 r1.b], .pointer (some ⟨g6, 1, none⟩), .int .i64 r0.a, .pointer (some ⟨g6, 0, none⟩), .int .i64 r0.y, .agg #[.int .i64 r0.a, .int .i64 r0.y], .pointer (some ⟨g6, 2, none⟩), .int .i64 r0.b, .pointer (some ⟨g7, 0, none⟩), .int .i64 r1.y, .int .i64 (r1.y + 1), .agg #[.int .i64 r0.b, .int .i64 (r1.y + 1)], undef, undef, undef, undef, undef, undef, undef, undef, undef, undef, undef, undef, undef, undef, undef, undef, undef, undef, undef, undef, undef], defers := [] } w3 := by
      intro g8 g9 w3 hv8 hv9 h89 hg8 hg9 hb3
      refine hKn2 _ _ ?_
      dsimp only
      have HP := hid (show Var w3 g8 (pcel ⟨lx r0.a (ss.take 0), r0.y⟩) 32 ∧ Var w3 g9 (pcel ⟨hx r0.b (ss.take 0), r1.y + 1⟩) 32 ∧ Below w1.heap.size w1 w3 from ⟨hv8, hv9, hb3⟩)
      clear hKn2 hv8 hv9 hb3 x0 x1 x2 xf y0 y1 y2 yf HB2
      go_wp2_with fail
      go_loopw [46] (fun s46 wr => ∃ (j : Nat), j ≤ n ∧ s46 = .int .i64 j ∧ Hid (Var wr g8 (pcel ⟨lx r0.a (ss.take j), r0.y⟩) 32 ∧ Var wr g9 (pcel ⟨hx r0.b (ss.take j), r1.y + 1⟩) 32 ∧ Below w1.heap.size w1 wr)) (fun s46 _ => n - (intOf s46).toNat)
      case atStart => exact ⟨0, Nat.zero_le _, rfl, HP⟩
      case round =>
        obtain ⟨j, hj, rfl, HL⟩ := hrel
        by_cases hlt : j < n
        · have hlz : j < ss.length := by rw [← HN.out]; exact hlt
          obtain ⟨a', e1, hal3, hsa⟩ := (HS.out.next (below_next HB1.out HL.out.2.2)).at_ hlz
          cases e1
          have HT := hid (show ss.take (j + 1) = ss.take j ++ [ss[j]] from List.take_succ_eq_append_getElem hlz)
          generalize ss[j] = r at hsa HT
          obtain ⟨c0, c1, c2⟩ := hsa
          go_upto_region 11 with fail
          obtain ⟨W2, hW2⟩ : ∃ W2, W2 = wr.alloc (.cells (cel r) 43) := ⟨_, rfl⟩
          have HVr := hid (show Var W2 wr.heap.size (cel r) 43 by rw [hW2]; exact Var.new _ _ _ _ rfl)
          have h8 : g8 ≠ wr.heap.size := by have := HL.out.1.lt; omega
          have h9 : g9 ≠ wr.heap.size := by have := HL.out.2.1.lt; omega
          have HL2 := hid (show Var W2 g8 (pcel ⟨lx r0.a (ss.take j), r0.y⟩) 32 ∧ Var W2 g9 (pcel ⟨hx r0.b (ss.take j), r1.y + 1⟩) 32 ∧ Below w1.heap.size w1 W2 by rw [hW2]; exact ⟨HL.out.1.alloc _, HL.out.2.1.alloc _, below_alloc HL.out.2.2 _⟩)
          rw [← hW2]
          have HX := hid (show lx r0.a (ss.take (j + 1)) = min (lx r0.a (ss.take j)) r.a by rw [HT.out]; unfold lx; rw [List.foldl_append]; rfl)
          have HY := hid (show hx r0.b (ss.take (j + 1)) = max (hx r0.b (ss.take j)) r.b by rw [HT.out]; unfold hx; rw [List.foldl_append]; rfl)
          clear hW2 c0 c1 c2 HP HL hal3
          generalize lx r0.a (ss.take j) = X at HL2 HX
          generalize hx r0.b (ss.take j) = Y at HL2 HY
          obtain ⟨p0, p1, pf⟩ := HL2.out.1.read2
          obtain ⟨s0, s1, sf⟩ := HL2.out.2.1.read2
          obtain ⟨z0, z1, z2, zf⟩ := HVr.out.read3
          go_region
          all_goals
            have HL3 := hid (show Var _ g8 (pcel ⟨lx r0.a (ss.take (j + 1)), r0.y⟩) 32 ∧ Var _ g9 (pcel ⟨hx r0.b (ss.take (j + 1)), r1.y + 1⟩) 32 ∧ Below w1.heap.size w1 _ by
              rw [HX.out, HY.out]
              exact ⟨((HL2.out.1.set (i := 0) (.int .i64 (min X r.a))).far (p := ⟨g9, 0, none⟩) h89 (.int .i64 (max Y r.b))).drew, ((HL2.out.2.1.far (p := ⟨g8, 0, none⟩) (Ne.symm h89) (.int .i64 (min X r.a))).set (i := 0) (.int .i64 (max Y r.b))).drew, ((HL2.out.2.2.setCell (p := ⟨g8, 0, none⟩) hg8 (.int .i64 (min X r.a))).setCell (p := ⟨g9, 0, none⟩) hg9 (.int .i64 (max Y r.b))).drew⟩)
            clear p0 p1 pf s0 s1 sf z0 z1 z2 zf HL2
            go_wp2_with fail
            go_roundw
            case rel => exact ⟨j + 1, by omega, by go_num, HL3⟩
            case measure => simp [intOf]; omega
        · obtain rfl : j = n := by omega
          have HE := hid (show ss.take j = ss from List.take_of_length_le (by have := HN.out; omega))
          go_upto_region 13 with fail
          rw [HE.out] at HL
          have HB9 := hid (below_next HB1.out (HL.out.2.2))
          have HO0 := hid (HR0.out.next HL.out.2.2)
          have HO1 := hid (HR1.out.next HL.out.2.2)
          have hw0 : w.heap.size ≠ g8 := by have := HR0.out.lt; omega
          obtain ⟨p0, p1, pf⟩ := HL.out.1.read2
          obtain ⟨s0, s1, sf⟩ := HL.out.2.1.read2
          obtain ⟨u0, u1, uf⟩ := HO0.out.read2
          obtain ⟨v0, v1, vf⟩ := HO1.out.read2
          have e0 : w.heap.size ≠ g9 := by have := HR0.out.lt; omega
          have e1 : w.heap.size + 1 ≠ g8 := by have := HR1.out.lt; omega
          have e2 : w.heap.size + 1 ≠ g9 := by have := HR1.out.lt; omega
          obtain ⟨X, hX⟩ : ∃ X, X = lx r0.a ss := ⟨_, rfl⟩
          obtain ⟨Y, hY⟩ : ∃ Y, Y = hx r0.b ss := ⟨_, rfl⟩
          rw [← hX] at p0
          rw [← hY] at s0
          have HXX := hid hX
          have HYY := hid hY
          clear hX hY HL
          have HZ := hid (show Var _ w.heap.size (pcel ⟨X, r0.y⟩) 32 ∧ Var _ (w.heap.size + 1) (pcel ⟨Y, r1.y + 1⟩) 32 ∧ Below w.heap.size w _ from
            ⟨((((HO0.out.set (i := 0) (.int .i64 X)).set (i := 1) (.int .i64 r0.y)).far (p := ⟨w.heap.size + 1, 0, none⟩) (by show w.heap.size ≠ w.heap.size + 1; omega) (.int .i64 Y)).far (p := ⟨w.heap.size + 1, 1, none⟩) (by show w.heap.size ≠ w.heap.size + 1; omega) (.int .i64 (r1.y + 1))).drew,
             ((((HO1.out.far (p := ⟨w.heap.size, 0, none⟩) (by show w.heap.size + 1 ≠ w.heap.size; omega) (.int .i64 X)).far (p := ⟨w.heap.size, 1, none⟩) (by show w.heap.size + 1 ≠ w.heap.size; omega) (.int .i64 r0.y)).set (i := 0) (.int .i64 Y)).set (i := 1) (.int .i64 (r1.y + 1))).drew,
             ((((HB9.out.setCell (p := ⟨w.heap.size, 0, none⟩) (Nat.le_refl _) (.int .i64 X)).setCell (p := ⟨w.heap.size, 1, none⟩) (Nat.le_refl _) (.int .i64 r0.y)).setCell (p := ⟨w.heap.size + 1, 0, none⟩) (by show w.heap.size ≤ w.heap.size + 1; omega) (.int .i64 Y)).setCell (p := ⟨w.heap.size + 1, 1, none⟩) (by show w.heap.size ≤ w.heap.size + 1; omega) (.int .i64 (r1.y + 1))).drew⟩)
          go_region
          all_goals
            clear p0 p1 pf s0 s1 sf u0 u1 uf v0 v1 vf
            go_wp2_with fail
            exact retPPr Try.results39 rfl rfl rfl HZ.out.1 HZ.out.2.1 ⟨⟨r0, r1, H00.out, H01.out, by rw [HXX.out, HYY.out]⟩, HZ.out.2.2⟩
    clear hKn2
    have hs2 : w1.heap.size ≤ w2.heap.size := HB2.out.size
    go_region
    all_goals first
      | exact key2 _ _ _ ((Var.new _ _ _ _ (by simp)).drew) (((Var.new _ _ _ _ rfl).alloc _).drew) (by omega) (by omega) (by omega) (below_alloc (below_alloc HB2.out _) _).drew
      | exact key2 _ _ _ (((Var.new _ _ _ _ rfl).alloc _).drew) ((Var.new _ _ _ _ (by simp)).drew) (by omega) (by omega) (by omega) (below_alloc (below_alloc HB2.out _) _).drew
  clear hKn
  go_region
  all_goals first
    | exact key _ _ _ ((Var.new _ _ _ _ (by simp)).drew) (((Var.new _ _ _ _ rfl).alloc _).drew) (below_alloc (below_alloc (Below.refl _ w1) _) _).drew
    | exact key _ _ _ (((Var.new _ _ _ _ rfl).alloc _).drew) ((Var.new _ _ _ _ (by simp)).drew) (below_alloc (below_alloc (Below.refl _ w1) _) _).drew

theorem bounds_bad (A : Option Addr) (ss : List Rn) (n c : Nat) (w : World) (hn : n = ss.length) (hl : n ≤ maxLen) (hs : Runs w A ss) (hc : chk ss ≠ 0) :
    Calls Try.prog 39 #[.slice A n c] w fun e w' => e = .returned (.tuple #[ptv ⟨0, 0⟩, ptv ⟨0, 0⟩, .int .i64 (chk ss)]) ∧ Below w.heap.size w w' := by
  have HS := hid hs
  have HN := hid hn
  have HM := hid hl
  have hc' : (chk ss != 0) = true := by simpa using hc
  clear hs hn hl hc
  obtain ⟨W, hW⟩ : ∃ W, W = (w.alloc (.cells #[.int .i64 0, .int .i64 0] 32)).alloc (.cells #[.int .i64 0, .int .i64 0] 32) := ⟨_, rfl⟩
  have HB0 := hid (show Below w.heap.size w W by rw [hW]; exact below_alloc (below_alloc (Below.refl _ w) _) _)
  have HV0 := hid (show Var W w.heap.size #[.int .i64 0, .int .i64 0] 32 by rw [hW]; exact (Var.new _ _ _ _ rfl).alloc _)
  have HV1 := hid (show Var W (w.heap.size + 1) #[.int .i64 0, .int .i64 0] 32 by rw [hW]; exact Var.new _ _ _ _ (by simp))
  go_enter Try.func39, Try.ntmps39
  go_upto_region 1 with fail
  rw [← hW]
  clear hW
  go_wp2_with fail
  (with_reducible refine (check_any A ss n c _ HN.out HM.out (HS.out.next HB0.out)).mono ?_); rintro e w1 ⟨rfl, hb⟩
  have HB1 := hid (below_next HB0.out hb)
  have HR0 := hid (HV0.out.next hb)
  have HR1 := hid (HV1.out.next hb)
  obtain ⟨u0, u1, uf⟩ := HR0.out.read2
  obtain ⟨v0, v1, vf⟩ := HR1.out.read2
  clear hb HV0 HV1 HB0
  have HZ := hid (show Var _ w.heap.size (pcel ⟨0, 0⟩) 32 ∧ Var _ (w.heap.size + 1) (pcel ⟨0, 0⟩) 32 ∧ Below w.heap.size w _ from
    ⟨((((HR0.out.set (i := 0) (.int .i64 0)).set (i := 1) (.int .i64 0)).far (p := ⟨w.heap.size + 1, 0, none⟩) (by show w.heap.size ≠ w.heap.size + 1; omega) (.int .i64 0)).far (p := ⟨w.heap.size + 1, 1, none⟩) (by show w.heap.size ≠ w.heap.size + 1; omega) (.int .i64 0)),
     ((((HR1.out.far (p := ⟨w.heap.size, 0, none⟩) (by show w.heap.size + 1 ≠ w.heap.size; omega) (.int .i64 0)).far (p := ⟨w.heap.size, 1, none⟩) (by show w.heap.size + 1 ≠ w.heap.size; omega) (.int .i64 0)).set (i := 0) (.int .i64 0)).set (i := 1) (.int .i64 0)),
     ((((HB1.out.setCell (p := ⟨w.heap.size, 0, none⟩) (Nat.le_refl _) (.int .i64 0)).setCell (p := ⟨w.heap.size, 1, none⟩) (Nat.le_refl _) (.int .i64 0)).setCell (p := ⟨w.heap.size + 1, 0, none⟩) (by show w.heap.size ≤ w.heap.size + 1; omega) (.int .i64 0)).setCell (p := ⟨w.heap.size + 1, 1, none⟩) (by show w.heap.size ≤ w.heap.size + 1; omega) (.int .i64 0))⟩)
  go_wp2_with fail
  exact retPPr Try.results39 rfl rfl rfl HZ.out.1 HZ.out.2.1 ⟨rfl, HZ.out.2.2⟩
theorem bounds_none (A : Option Addr) (c : Nat) (w : World) :
    Calls Try.prog 39 #[.slice A 0 c] w fun e w' => e = .returned (.tuple #[ptv ⟨0, 0⟩, ptv ⟨0, 0⟩, .int .i64 8]) ∧ Below w.heap.size w w' := by
  obtain ⟨W, hW⟩ : ∃ W, W = (w.alloc (.cells #[.int .i64 0, .int .i64 0] 32)).alloc (.cells #[.int .i64 0, .int .i64 0] 32) := ⟨_, rfl⟩
  have HB0 := hid (show Below w.heap.size w W by rw [hW]; exact below_alloc (below_alloc (Below.refl _ w) _) _)
  have HV0 := hid (show Var W w.heap.size #[.int .i64 0, .int .i64 0] 32 by rw [hW]; exact (Var.new _ _ _ _ rfl).alloc _)
  have HV1 := hid (show Var W (w.heap.size + 1) #[.int .i64 0, .int .i64 0] 32 by rw [hW]; exact Var.new _ _ _ _ (by simp))
  go_enter Try.func39, Try.ntmps39
  go_upto_region 1 with fail
  rw [← hW]
  clear hW
  go_wp2_with fail
  (with_reducible refine (check_any A [] 0 c _ rfl (Nat.zero_le _) (Runs.nil _ _)).mono ?_); rintro e w1 ⟨rfl, hb⟩
  have HB1 := hid (below_next HB0.out hb)
  have HR0 := hid (HV0.out.next hb)
  have HR1 := hid (HV1.out.next hb)
  obtain ⟨u0, u1, uf⟩ := HR0.out.read2
  obtain ⟨v0, v1, vf⟩ := HR1.out.read2
  rw [show chk [] = 0 from rfl]
  clear hb HV0 HV1 HB0
  have HZ := hid (show Var _ w.heap.size (pcel ⟨0, 0⟩) 32 ∧ Var _ (w.heap.size + 1) (pcel ⟨0, 0⟩) 32 ∧ Below w.heap.size w _ from
    ⟨((((HR0.out.set (i := 0) (.int .i64 0)).set (i := 1) (.int .i64 0)).far (p := ⟨w.heap.size + 1, 0, none⟩) (by show w.heap.size ≠ w.heap.size + 1; omega) (.int .i64 0)).far (p := ⟨w.heap.size + 1, 1, none⟩) (by show w.heap.size ≠ w.heap.size + 1; omega) (.int .i64 0)),
     ((((HR1.out.far (p := ⟨w.heap.size, 0, none⟩) (by show w.heap.size + 1 ≠ w.heap.size; omega) (.int .i64 0)).far (p := ⟨w.heap.size, 1, none⟩) (by show w.heap.size + 1 ≠ w.heap.size; omega) (.int .i64 0)).set (i := 0) (.int .i64 0)).set (i := 1) (.int .i64 0)),
     ((((HB1.out.setCell (p := ⟨w.heap.size, 0, none⟩) (Nat.le_refl _) (.int .i64 0)).setCell (p := ⟨w.heap.size, 1, none⟩) (Nat.le_refl _) (.int .i64 0)).setCell (p := ⟨w.heap.size + 1, 0, none⟩) (by show w.heap.size ≤ w.heap.size + 1; omega) (.int .i64 0)).setCell (p := ⟨w.heap.size + 1, 1, none⟩) (by show w.heap.size ≤ w.heap.size + 1; omega) (.int .i64 0))⟩)
  go_wp2_with fail
  exact retPPr Try.results39 rfl rfl rfl HZ.out.1 HZ.out.2.1 ⟨rfl, HZ.out.2.2⟩
end Go.Proofs.Ytjehmjcalapaiaa
