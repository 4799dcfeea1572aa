/- The reference's LinesCheck, Coord, Permitted, crossed. -/
import Derived.Test.YtjflgblplmgjlaaFil
namespace Go.Proofs.Ytjflgblplmgjlaa
open Go Go.RowKit
set_option linter.unusedVariables false
set_option linter.unusedSimpArgs false

theorem inx_t (n lo hi : Int) (w : World) (h : lo ≤ n ∧ n ≤ hi) : Calls Try.prog 19 #[.int .i64 n, .int .i64 lo, .int .i64 hi] w fun e w' => e = .returned (.bool true) ∧ w = w' := inB_yes h ▸ in_any n lo hi w
theorem inx_f (n lo hi : Int) (w : World) (h : ¬ (lo ≤ n ∧ n ≤ hi)) : Calls Try.prog 19 #[.int .i64 n, .int .i64 lo, .int .i64 hi] w fun e w' => e = .returned (.bool false) ∧ w = w' := inB_no h ▸ in_any n lo hi w

theorem coord_any (p : P2) (w : World) : Calls Try.prog 30 #[ptv p] w fun e w' => e = .returned (.bool (okP p)) ∧ Below w.heap.size w w' := by
  by_cases h1 : -32767 ≤ p.x ∧ p.x ≤ 32767
  · by_cases h2 : -32767 ≤ p.y ∧ p.y ≤ 32767
    · rw [show okP p = true by unfold okP; rw [inB_yes h1, inB_yes h2]; rfl]
      go_enter Try.func30, Try.ntmps30
      go_wp2_with fail
      (with_reducible refine (inx_t _ _ _ _ h1).mono ?_); rintro e w' ⟨rfl, rfl⟩
      go_wp2_with fail
      (with_reducible refine (inx_t _ _ _ _ h2).mono ?_); rintro e w' ⟨rfl, rfl⟩
      go_wp2_with fail
      go_ret
      exact ⟨rfl, below_alloc (Below.refl _ w) _⟩
    · rw [show okP p = false by unfold okP; rw [inB_no h2, Bool.and_false]]
      go_enter Try.func30, Try.ntmps30
      go_wp2_with fail
      (with_reducible refine (inx_t _ _ _ _ h1).mono ?_); rintro e w' ⟨rfl, rfl⟩
      go_wp2_with fail
      (with_reducible refine (inx_f _ _ _ _ h2).mono ?_); rintro e w' ⟨rfl, rfl⟩
      go_wp2_with fail
      go_ret
      exact ⟨rfl, below_alloc (Below.refl _ w) _⟩
  · rw [show okP p = false by unfold okP; rw [inB_no h1, Bool.false_and]]
    go_enter Try.func30, Try.ntmps30
    go_wp2_with fail
    (with_reducible refine (inx_f _ _ _ _ h1).mono ?_); rintro e w' ⟨rfl, rfl⟩
    go_wp2_with fail
    go_ret
    exact ⟨rfl, below_alloc (Below.refl _ w) _⟩
/-- Whether a cell is a permitted one. -/
def okC (x y : Int) : Bool := inB x (-8192) 8191 && inB y (-8192) 8191
set_option maxHeartbeats 2000000 in
set_option maxRecDepth 100000 in
theorem rlcheck_any (A : Option Addr) (ls : List Ln) (n c : Nat) (w : World) (hn : n = ls.length) (hl : n ≤ maxLen) (hs : Lns w A ls) :
    Calls Try.prog 17 #[.slice A n c] w fun e w' => e = .returned (.int .i64 (lchk ls)) ∧ Below w.heap.size w w' := by
  obtain ⟨es, rfl, hE⟩ := hs.ext
  have HS := hid hE
  have HN := hid (show n = es.length by simpa using hn)
  unfold maxLen at hl
  obtain ⟨ls, hls⟩ : ∃ ls, ls = es.map LE.ln := ⟨_, rfl⟩
  have HLS := hid hls
  rw [← hls]
  clear hs hn hE hls
  go_enter Try.func17, Try.ntmps17
  go_wp2_with fail
  go_loopw [7] (fun s7 wr => ∃ (i : Nat), i ≤ n ∧ s7 = .int .i64 i ∧ Hid (lok ls = lok (ls.drop i)) ∧ Hid (Below w.heap.size w wr)) (fun s7 _ => n - (intOf s7).toNat)
  case atStart => exact ⟨0, Nat.zero_le _, rfl, hid rfl, hid (Below.refl _ w)⟩
  case round =>
    obtain ⟨i, hi, rfl, HC, HB⟩ := hrel
    by_cases hlt : i < n
    · have hil : i < es.length := by rw [← HN.out]; exact hlt
      have hil2 : i < ls.length := by rw [HLS.out]; simpa using hil
      obtain ⟨a, rfl, hal, hsa⟩ := (HS.out.next HB.out).at_ hil
      have HC' := hid (show lok ls = (okPs es[i].ps && lok (ls.drop (i + 1))) from HC.out.trans ((lok_drop hil2).trans (by simp [HLS.out, LE.ln])))
      have HE := hid (show es[i]? = some es[i] from List.getElem?_eq_getElem hil)
      generalize es[i] = g at hsa HC' HE
      obtain ⟨c0, c1, hp, hpc, hpm⟩ := hsa
      have HPM := hid (Nat.le_trans hpc hpm)
      clear hp HC
      obtain ⟨m, hm⟩ : ∃ m, m = g.ps.length := ⟨_, rfl⟩
      have HM := hid hm
      obtain ⟨A', hA'⟩ : ∃ A', A' = g.A := ⟨_, rfl⟩
      rw [← hm, ← hA'] at c0
      rw [← hm] at HPM
      have HA := hid hA'
      have hml : m ≤ 2 ^ 63 - 1 := by have := HPM.out; unfold maxLen at this; omega
      clear hpc hpm hm hA' hal
      have HIL := hid (show i < n from hlt)
      go_wp2_with fail
      clear c0 c1
      go_loopw [16] (fun s16 wx => ∃ (k : Nat), k ≤ m ∧ s16 = .int .i64 k ∧ Hid (lok ls = (okPs (g.ps.drop k) && lok (ls.drop (i + 1)))) ∧ Hid (Below w.heap.size w wx)) (fun s16 _ => m - (intOf s16).toNat)
      case atStart => exact ⟨0, Nat.zero_le _, rfl, hid HC'.out, hid HB.out⟩
      case round =>
        clear HC' HB
        obtain ⟨k, hk, rfl, HC, HB⟩ := hrel
        by_cases hlt : k < m
        · have hkl : k < g.ps.length := by rw [← HM.out]; exact hlt
          obtain ⟨a2, ha2, hal2, hsa⟩ := (HS.out.next HB.out).at_ (i := i) (by rw [← HN.out]; exact HIL.out)
          cases ha2
          have hge : es[i]'(by rw [← HN.out]; exact HIL.out) = g := by
            have := HE.out
            rw [List.getElem?_eq_getElem (by rw [← HN.out]; exact HIL.out)] at this
            exact Option.some.inj this
          rw [hge] at hsa
          obtain ⟨c0, -, hp, -⟩ := hsa
          rw [← HA.out] at c0 hp
          rw [← HM.out] at c0
          clear hge
          obtain ⟨b, rfl, hbl, hsb⟩ := hp.at_ hkl
          have HC' := hid (HC.out.trans (by rw [okPs_drop hkl]))
          generalize g.ps[k] = q at hsb HC'
          obtain ⟨d0, d1⟩ := hsb
          have HB2 := hid HB.out
          have hin := HIL.out
          clear HC HB hp hbl hal2
          cases hq : okP q with
          | true =>
            have HC2 := hid (show lok ls = (okPs (g.ps.drop (k + 1)) && lok (ls.drop (i + 1))) by rw [HC'.out, hq]; rfl)
            have HQ := hid hq
            clear HC' hq
            go_wp2_with fail
            (with_reducible refine (coord_any q _).mono ?_); rintro e w' ⟨rfl, hb⟩
            rw [HQ.out]
            have HB3 := hid (below_next HB2.out hb)
            clear hb
            go_wp2_with fail
            go_roundw
            case rel => exact ⟨k + 1, by omega, by go_num, HC2, HB3⟩
            case measure => simp [intOf]; omega
          | false =>
            have HC2 := hid (show lchk ls = 3 from lchk_f (by rw [HC'.out, hq]; rfl))
            have HQ := hid hq
            clear HC' hq
            go_wp2_with fail
            (with_reducible refine (coord_any q _).mono ?_); rintro e w' ⟨rfl, hb⟩
            rw [HQ.out]
            have HB3 := hid (below_next HB2.out hb)
            clear hb
            go_wp2_with fail
            go_ret
            exact ⟨by rw [HC2.out]; rfl, HB3.out⟩
        · have HC2 := hid (show lok ls = lok (ls.drop (i + 1)) by rw [HC.out, List.drop_eq_nil_of_le (by have := HM.out; omega)]; rfl)
          clear HC
          go_wp2_with fail
          go_roundw
          case rel => exact ⟨i + 1, by have := HIL.out; omega, by go_num, HC2, HB⟩
          case measure => have := HIL.out; simp [intOf]; omega
    · have HE := hid (show lchk ls = 0 from lchk_t (by rw [HC.out, List.drop_eq_nil_of_le (by have := HN.out; rw [HLS.out, List.length_map]; omega)]; rfl))
      go_wp2_with fail
      go_ret
      exact ⟨by rw [HE.out]; rfl, HB.out⟩

end Go.Proofs.Ytjflgblplmgjlaa
