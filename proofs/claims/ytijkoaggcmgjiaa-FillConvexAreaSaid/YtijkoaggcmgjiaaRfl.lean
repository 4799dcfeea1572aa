/- The reference's LinesCheck, Coord, Permitted, crossed. -/
import Derived.Test.YtijkoaggcmgjiaaSlp
namespace Go.Proofs.Ytijkoaggcmgjiaa
open Go Go.RowKit
set_option linter.unusedVariables false
set_option linter.unusedSimpArgs false

theorem inx_t (n lo hi : Int) (w : World) (h : lo ≤ n ∧ n ≤ hi) : Calls Try.prog 71 #[.int .i64 n, .int .i64 lo, .int .i64 hi] w fun e w' => e = .returned (.bool true) ∧ w = w' := inB_yes h ▸ in_any n lo hi w
theorem inx_f (n lo hi : Int) (w : World) (h : ¬ (lo ≤ n ∧ n ≤ hi)) : Calls Try.prog 71 #[.int .i64 n, .int .i64 lo, .int .i64 hi] w fun e w' => e = .returned (.bool false) ∧ w = w' := inB_no h ▸ in_any n lo hi w

theorem coord_any (p : P2) (w : World) : Calls Try.prog 48 #[ptv p] w fun e w' => e = .returned (.bool (okP p)) ∧ Below w.heap.size w w' := by
  by_cases h1 : -32767 ≤ p.x ∧ p.x ≤ 32767
  · by_cases h2 : -32767 ≤ p.y ∧ p.y ≤ 32767
    · rw [show okP p = true by unfold okP; rw [inB_yes h1, inB_yes h2]; rfl]
      go_enter Try.func48, Try.ntmps48
      go_wp2_with fail
      (with_reducible refine (inx_t _ _ _ _ h1).mono ?_); rintro e w' ⟨rfl, rfl⟩
      go_wp2_with fail
      (with_reducible refine (inx_t _ _ _ _ h2).mono ?_); rintro e w' ⟨rfl, rfl⟩
      go_wp2_with fail
      go_ret
      exact ⟨rfl, below_alloc (Below.refl _ w) _⟩
    · rw [show okP p = false by unfold okP; rw [inB_no h2, Bool.and_false]]
      go_enter Try.func48, Try.ntmps48
      go_wp2_with fail
      (with_reducible refine (inx_t _ _ _ _ h1).mono ?_); rintro e w' ⟨rfl, rfl⟩
      go_wp2_with fail
      (with_reducible refine (inx_f _ _ _ _ h2).mono ?_); rintro e w' ⟨rfl, rfl⟩
      go_wp2_with fail
      go_ret
      exact ⟨rfl, below_alloc (Below.refl _ w) _⟩
  · rw [show okP p = false by unfold okP; rw [inB_no h1, Bool.false_and]]
    go_enter Try.func48, Try.ntmps48
    go_wp2_with fail
    (with_reducible refine (inx_f _ _ _ _ h1).mono ?_); rintro e w' ⟨rfl, rfl⟩
    go_wp2_with fail
    go_ret
    exact ⟨rfl, below_alloc (Below.refl _ w) _⟩
/-- Whether a cell is a permitted one. -/
def okC (x y : Int) : Bool := inB x (-8192) 8191 && inB y (-8192) 8191
set_option maxHeartbeats 2000000 in
set_option maxRecDepth 100000 in
theorem rlcheck_any (A : Option Addr) (ls : List Ln) (n c : Nat) (w : World) (hn : n = ls.length) (hl : n ≤ maxLen) (hs : Lns w A ls) :
    Calls Try.prog 14 #[.slice A n c] w fun e w' => e = .returned (.int .i64 (lchk ls)) ∧ Below w.heap.size w w' := by
  obtain ⟨es, rfl, hE⟩ := hs.ext
  have HS := hid hE
  have HN := hid (show n = es.length by simpa using hn)
  unfold maxLen at hl
  obtain ⟨ls, hls⟩ : ∃ ls, ls = es.map LE.ln := ⟨_, rfl⟩
  have HLS := hid hls
  rw [← hls]
  clear hs hn hE hls
  go_enter Try.func14, Try.ntmps14
  go_wp2_with fail
  go_loopw [7] (fun s7 wr => ∃ (i : Nat), i ≤ n ∧ s7 = .int .i64 i ∧ Hid (lok ls = lok (ls.drop i)) ∧ Hid (Below w.heap.size w wr)) (fun s7 _ => n - (intOf s7).toNat)
  case atStart => exact ⟨0, Nat.zero_le _, rfl, hid rfl, hid (Below.refl _ w)⟩
  case round =>
    obtain ⟨i, hi, rfl, HC, HB⟩ := hrel
    by_cases hlt : i < n
    · have hil : i < es.length := by rw [← HN.out]; exact hlt
      have hil2 : i < ls.length := by rw [HLS.out]; simpa using hil
      obtain ⟨a, rfl, hal, hsa⟩ := (HS.out.next HB.out).at_ hil
      have HC' := hid (show lok ls = (okPs es[i].ps && lok (ls.drop (i + 1))) from HC.out.trans ((lok_drop hil2).trans (by simp [HLS.out, LE.ln])))
      have HE := hid (show es[i]? = some es[i] from List.getElem?_eq_getElem hil)
      generalize es[i] = g at hsa HC' HE
      obtain ⟨c0, c1, hp, hpc, hpm⟩ := hsa
      have HPM := hid (Nat.le_trans hpc hpm)
      clear hp HC
      obtain ⟨m, hm⟩ : ∃ m, m = g.ps.length := ⟨_, rfl⟩
      have HM := hid hm
      obtain ⟨A', hA'⟩ : ∃ A', A' = g.A := ⟨_, rfl⟩
      rw [← hm, ← hA'] at c0
      rw [← hm] at HPM
      have HA := hid hA'
      have hml : m ≤ 2 ^ 63 - 1 := by have := HPM.out; unfold maxLen at this; omega
      clear hpc hpm hm hA' hal
      have HIL := hid (show i < n from hlt)
      go_wp2_with fail
      clear c0 c1
      go_loopw [16] (fun s16 wx => ∃ (k : Nat), k ≤ m ∧ s16 = .int .i64 k ∧ Hid (lok ls = (okPs (g.ps.drop k) && lok (ls.drop (i + 1)))) ∧ Hid (Below w.heap.size w wx)) (fun s16 _ => m - (intOf s16).toNat)
      case atStart => exact ⟨0, Nat.zero_le _, rfl, hid HC'.out, hid HB.out⟩
      case round =>
        clear HC' HB
        obtain ⟨k, hk, rfl, HC, HB⟩ := hrel
        by_cases hlt : k < m
        · have hkl : k < g.ps.length := by rw [← HM.out]; exact hlt
          obtain ⟨a2, ha2, hal2, hsa⟩ := (HS.out.next HB.out).at_ (i := i) (by rw [← HN.out]; exact HIL.out)
          cases ha2
          have hge : es[i]'(by rw [← HN.out]; exact HIL.out) = g := by
            have := HE.out
            rw [List.getElem?_eq_getElem (by rw [← HN.out]; exact HIL.out)] at this
            exact Option.some.inj this
          rw [hge] at hsa
          obtain ⟨c0, -, hp, -⟩ := hsa
          rw [← HA.out] at c0 hp
          rw [← HM.out] at c0
          clear hge
          obtain ⟨b, rfl, hbl, hsb⟩ := hp.at_ hkl
          have HC' := hid (HC.out.trans (by rw [okPs_drop hkl]))
          generalize g.ps[k] = q at hsb HC'
          obtain ⟨d0, d1⟩ := hsb
          have HB2 := hid HB.out
          have hin := HIL.out
          clear HC HB hp hbl hal2
          cases hq : okP q with
          | true =>
            have HC2 := hid (show lok ls = (okPs (g.ps.drop (k + 1)) && lok (ls.drop (i + 1))) by rw [HC'.out, hq]; rfl)
            have HQ := hid hq
            clear HC' hq
            go_wp2_with fail
            (with_reducible refine (coord_any q _).mono ?_); rintro e w' ⟨rfl, hb⟩
            rw [HQ.out]
            have HB3 := hid (below_next HB2.out hb)
            clear hb
            go_wp2_with fail
            go_roundw
            case rel => exact ⟨k + 1, by omega, by go_num, HC2, HB3⟩
            case measure => simp [intOf]; omega
          | false =>
            have HC2 := hid (show lchk ls = 3 from lchk_f (by rw [HC'.out, hq]; rfl))
            have HQ := hid hq
            clear HC' hq
            go_wp2_with fail
            (with_reducible refine (coord_any q _).mono ?_); rintro e w' ⟨rfl, hb⟩
            rw [HQ.out]
            have HB3 := hid (below_next HB2.out hb)
            clear hb
            go_wp2_with fail
            go_ret
            exact ⟨by rw [HC2.out]; rfl, HB3.out⟩
        · have HC2 := hid (show lok ls = lok (ls.drop (i + 1)) by rw [HC.out, List.drop_eq_nil_of_le (by have := HM.out; omega)]; rfl)
          clear HC
          go_wp2_with fail
          go_roundw
          case rel => exact ⟨i + 1, by have := HIL.out; omega, by go_num, HC2, HB⟩
          case measure => have := HIL.out; simp [intOf]; omega
    · have HE := hid (show lchk ls = 0 from lchk_t (by rw [HC.out, List.drop_eq_nil_of_le (by have := HN.out; rw [HLS.out, List.length_map]; omega)]; rfl))
      go_wp2_with fail
      go_ret
      exact ⟨by rw [HE.out]; rfl, HB.out⟩

theorem ret3_int {a b c d e f : Int} (h : a = d) (k : b = e) (l : c = f) : Ending.returned (.tuple #[.int .i64 a, .int .i64 b, .int .i64 c]) = .returned (.tuple #[.int .i64 d, .int .i64 e, .int .i64 f]) := by rw [h, k, l]
set_option maxHeartbeats 2000000 in
theorem crossed_no (p q : P2) (y : Int) (w : World) (h : (slp p q).hit y = false) :
    Calls Try.prog 90 #[ptv p, ptv q, .int .i64 y] w fun e w' => e = .returned (.tuple #[.int .i64 0, .int .i64 0, .int .i64 1]) ∧ Below w.heap.size w w' := by
  obtain ⟨px, py⟩ := p
  obtain ⟨qx, qy⟩ := q
  by_cases hpq : py ≤ qy
  · rw [slp_t hpq] at h
    have h' : ¬ (py ≤ y ∧ y < qy) := by unfold Sl.hit at h; simpa using h
    clear h
    by_cases h1 : y < py
    · clear h'
      go_enter Try.func90, Try.ntmps90
      go_wp2
      go_ret3
      exact ⟨rfl, below_alloc (below_alloc (Below.refl _ w) _) _⟩
    · have h2 : qy ≤ y := by omega
      clear h'
      go_enter Try.func90, Try.ntmps90
      go_wp2
      go_ret3
      exact ⟨rfl, below_alloc (below_alloc (Below.refl _ w) _) _⟩
  · rw [slp_f hpq] at h
    have h' : ¬ (qy ≤ y ∧ y < py) := by unfold Sl.hit at h; simpa using h
    clear h
    by_cases h1 : y < qy
    · clear h'
      go_enter Try.func90, Try.ntmps90
      go_wp2
      go_ret3
      exact ⟨rfl, below_alloc (below_alloc (Below.refl _ w) _) _⟩
    · have h2 : py ≤ y := by omega
      clear h'
      go_enter Try.func90, Try.ntmps90
      go_wp2
      go_ret3
      exact ⟨rfl, below_alloc (below_alloc (Below.refl _ w) _) _⟩
theorem cross_facts {tx ty bx by_ y H : Int} (h : (-32767 ≤ tx ∧ tx ≤ 32767) ∧ (-32767 ≤ ty ∧ ty ≤ 32767) ∧ (-32767 ≤ bx ∧ bx ≤ 32767) ∧ (-32767 ≤ by_ ∧ by_ ≤ 32767)) (h1 : ty ≤ y) (h2 : y < by_) (e : by_ - ty = H) :
    IntKind.i64.wrap (2 * tx) = 2 * tx ∧ IntKind.i64.wrap (2 * tx * H) = 2 * tx * H ∧ IntKind.i64.wrap (bx - tx) = bx - tx ∧ IntKind.i64.wrap (2 * y) = 2 * y ∧ IntKind.i64.wrap (2 * y + 1) = 2 * y + 1 ∧ IntKind.i64.wrap (2 * ty) = 2 * ty ∧
    IntKind.i64.wrap (2 * y + 1 - 2 * ty) = 2 * y + 1 - 2 * ty ∧ IntKind.i64.wrap ((bx - tx) * (2 * y + 1 - 2 * ty)) = (bx - tx) * (2 * y + 1 - 2 * ty) ∧
    IntKind.i64.wrap (2 * tx * H + (bx - tx) * (2 * y + 1 - 2 * ty)) = 2 * tx * H + (bx - tx) * (2 * y + 1 - 2 * ty) ∧ IntKind.i64.wrap (by_ - ty) = by_ - ty := by
  obtain ⟨k1, k2, k3, k4⟩ := h
  have a1 := mul_abs (a := 2 * tx) (b := H) (A := 65534) (B := 65534) (by omega) (by omega)
  have a2 := mul_abs (a := bx - tx) (b := 2 * y + 1 - 2 * ty) (A := 65534) (B := 131068) (by omega) (by omega)
  refine ⟨?_, ?_, ?_, ?_, ?_, ?_, ?_, ?_, ?_, ?_⟩ <;> exact IntWalk.i64_in _ (by omega)
set_option maxHeartbeats 2000000 in
theorem crossed_yes (p q : P2) (y : Int) (w : World) (hI : SlIn (slp p q)) (h : (slp p q).hit y = true) :
    Calls Try.prog 90 #[ptv p, ptv q, .int .i64 y] w fun e w' => e = .returned (.tuple #[.int .i64 (slp p q).d, .int .i64 ((slp p q).num y), .int .i64 (slp p q).h]) ∧ Below w.heap.size w w' := by
  have h' : (slp p q).t.y ≤ y ∧ y < (slp p q).b.y := by unfold Sl.hit at h; simpa using h
  have HIN := hI
  clear h hI
  obtain ⟨px, py⟩ := p
  obtain ⟨qx, qy⟩ := q
  by_cases hpq : py ≤ qy
  · rw [slp_t hpq] at h' HIN ⊢
    obtain ⟨h1, h2⟩ := h'
    have HIN1 : (-32767 ≤ px ∧ px ≤ 32767) ∧ (-32767 ≤ py ∧ py ≤ 32767) ∧ (-32767 ≤ qx ∧ qx ≤ 32767) ∧ (-32767 ≤ qy ∧ qy ≤ 32767) := ⟨HIN.tx, HIN.ty, HIN.bx, HIN.by_⟩
    dsimp only at h1 h2
    obtain ⟨H, e1⟩ : ∃ H, qy - py = H := ⟨_, rfl⟩
    obtain ⟨f0, f1, f2, f3, f4, f5, f6, f7, f8, f9⟩ := cross_facts (tx := px) (ty := py) (bx := qx) (by_ := qy) (y := y) (H := H) HIN1 h1 h2 e1
    have e2 : IntKind.i64.wrap (qy - py) = H := by rw [f9, e1]
    have E := hid (show Sl.num ⟨⟨px, py⟩, ⟨qx, qy⟩, 1⟩ y = 2 * px * H + (qx - px) * (2 * y + 1 - 2 * py) by unfold Sl.num Sl.h; dsimp only; rw [e1]; grind)
    have E2 := hid (show Sl.h ⟨⟨px, py⟩, ⟨qx, qy⟩, 1⟩ = H from e1)
    rw [E.out, E2.out]
    clear e1 f9
    go_enter Try.func90, Try.ntmps90
    go_upto_region 7 with fail
    go_quiet (fail)
    go_wp2_with fail
    go_ret3
    exact ⟨rfl, below_drewN (below_alloc (below_alloc (Below.refl _ w) _) _) _⟩
  · rw [slp_f hpq] at h' HIN ⊢
    obtain ⟨h1, h2⟩ := h'
    have HIN1 : (-32767 ≤ qx ∧ qx ≤ 32767) ∧ (-32767 ≤ qy ∧ qy ≤ 32767) ∧ (-32767 ≤ px ∧ px ≤ 32767) ∧ (-32767 ≤ py ∧ py ≤ 32767) := ⟨HIN.tx, HIN.ty, HIN.bx, HIN.by_⟩
    dsimp only at h1 h2
    obtain ⟨H, e1⟩ : ∃ H, py - qy = H := ⟨_, rfl⟩
    obtain ⟨f0, f1, f2, f3, f4, f5, f6, f7, f8, f9⟩ := cross_facts (tx := qx) (ty := qy) (bx := px) (by_ := py) (y := y) (H := H) HIN1 h1 h2 e1
    have e2 : IntKind.i64.wrap (py - qy) = H := by rw [f9, e1]
    have E := hid (show Sl.num ⟨⟨qx, qy⟩, ⟨px, py⟩, -1⟩ y = 2 * qx * H + (px - qx) * (2 * y + 1 - 2 * qy) by unfold Sl.num Sl.h; dsimp only; rw [e1]; grind)
    have E2 := hid (show Sl.h ⟨⟨qx, qy⟩, ⟨px, py⟩, -1⟩ = H from e1)
    rw [E.out, E2.out]
    clear e1 f9
    go_enter Try.func90, Try.ntmps90
    go_upto_region 7 with fail
    go_quiet (fail)
    go_wp2_with fail
    go_ret3
    exact ⟨rfl, below_drewN (below_alloc (below_alloc (Below.refl _ w) _) _) _⟩
end Go.Proofs.Ytijkoaggcmgjiaa
