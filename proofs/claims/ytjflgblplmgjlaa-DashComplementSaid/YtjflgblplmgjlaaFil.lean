/- What the small functions of package fill return, and those of the reference. -/
import Derived.Test.YtjflgblplmgjlaaWnd
import Derived.Test.YtjflgblplmgjlaaFNum
import Derived.Test.YtjflgblplmgjlaaStep
namespace Go.Proofs.Ytjflgblplmgjlaa
open Go Go.RowKit
set_option linter.unusedVariables false
set_option linter.unusedSimpArgs false

theorem within_any (n : Int) (w : World) : Calls Try.prog 33 #[.int .i64 n] w fun e w' => e = .returned (.bool (inB n (-32767) 32767)) ∧ w = w' := by
  by_cases h1 : -32767 ≤ n
  · by_cases h2 : n ≤ 32767
    · rw [inB_yes (by omega)]
      go_enter Try.func33, Try.ntmps33
      go_wp2
      go_ret
      exact ⟨rfl, rfl⟩
    · rw [inB_no (by omega)]
      go_enter Try.func33, Try.ntmps33
      go_wp2
      go_ret
      exact ⟨rfl, rfl⟩
  · rw [inB_no (by omega)]
    go_enter Try.func33, Try.ntmps33
    go_wp2
    go_ret
    exact ⟨rfl, rfl⟩
/-- Lines whose points are in range. -/
def okP (p : P2) : Bool := inB p.x (-32767) 32767 && inB p.y (-32767) 32767
def okPs (ps : List P2) : Bool := ps.all okP
def lok (ls : List Ln) : Bool := ls.all fun l => okPs l.ps
def lchk (ls : List Ln) : Int := if lok ls then 0 else 3
theorem okPs_drop {ps : List P2} {k : Nat} (h : k < ps.length) : okPs (ps.drop k) = (okP ps[k] && okPs (ps.drop (k + 1))) := by
  rw [List.drop_eq_getElem_cons h]; rfl
theorem lok_drop {ls : List Ln} {k : Nat} (h : k < ls.length) : lok (ls.drop k) = (okPs ls[k].ps && lok (ls.drop (k + 1))) := by
  rw [List.drop_eq_getElem_cons h]; rfl
theorem lchk_t {ls : List Ln} (h : lok ls = true) : lchk ls = 0 := by unfold lchk; rw [h]; rfl
theorem lchk_f {ls : List Ln} (h : lok ls = false) : lchk ls = 3 := by unfold lchk; rw [h]; rfl
theorem lok_of {ls : List Ln} (h : lchk ls = 0) : lok ls = true := by
  cases e : lok ls with
  | true => rfl
  | false => rw [lchk_f e] at h; cases h
theorem lok_all {ls : List Ln} (h : lok ls = true) : ∀ l ∈ ls, ∀ p ∈ l.ps, (-32767 ≤ p.x ∧ p.x ≤ 32767) ∧ -32767 ≤ p.y ∧ p.y ≤ 32767 := fun l hl p hp => by
  have h1 := List.all_eq_true.1 h l hl
  have h2 := List.all_eq_true.1 h1 p hp
  unfold okP at h2
  rw [Bool.and_eq_true, inB_iff, inB_iff] at h2
  exact h2

theorem within_t (n : Int) (w : World) (h : -32767 ≤ n ∧ n ≤ 32767) : Calls Try.prog 33 #[.int .i64 n] w fun e w' => e = .returned (.bool true) ∧ w = w' := inB_yes h ▸ within_any n w
theorem within_f (n : Int) (w : World) (h : ¬ (-32767 ≤ n ∧ n ≤ 32767)) : Calls Try.prog 33 #[.int .i64 n] w fun e w' => e = .returned (.bool false) ∧ w = w' := inB_no h ▸ within_any n w

set_option maxHeartbeats 2000000 in
set_option maxRecDepth 100000 in
theorem fcheck_any (A : Option Addr) (ls : List Ln) (n c : Nat) (w : World) (hn : n = ls.length) (hl : n ≤ maxLen) (hs : Lns w A ls) :
    Calls Try.prog 22 #[.slice A n c] w fun e w' => e = .returned (.int .i64 (lchk ls)) ∧ Below w.heap.size w w' := by
  have HS := hid hs
  have HN := hid hn
  unfold maxLen at hl
  clear hs hn
  go_enter Try.func22, Try.ntmps22
  go_wp2_with fail
  go_loopw [9] (fun s9 wr => ∃ (i : Nat), i ≤ n ∧ s9 = .int .i64 i ∧ Hid (lok ls = lok (ls.drop i)) ∧ Hid (Below w.heap.size w wr)) (fun s9 _ => n - (intOf s9).toNat)
  case atStart => exact ⟨0, Nat.zero_le _, rfl, hid rfl, hid (Below.refl _ w)⟩
  case round =>
    obtain ⟨i, hi, rfl, HC, HB⟩ := hrel
    by_cases hlt : i < n
    · have hil : i < ls.length := by rw [← HN.out]; exact hlt
      obtain ⟨a, rfl, hal, hsa⟩ := (HS.out.next HB.out).at_ hil
      have HC' := hid (HC.out.trans (lok_drop hil))
      generalize ls[i] = g at hsa HC'
      obtain ⟨⟨A', c', c0, hp, hpc, hpm⟩, c1⟩ := hsa
      have HP := hid hp
      have HPM := hid (Nat.le_trans hpc hpm)
      clear hp HC
      have HV := hid (Var.new wr #[.slice A' g.ps.length c', .bool g.cl] 27 _ rfl)
      have HB1 := hid (below_alloc HB.out (.cells #[.slice A' g.ps.length c', .bool g.cl] 27))
      have HP1 := hid (HP.out.next ((Below.refl wr.heap.size wr).alloc (Nat.le_refl _) (.cells #[.slice A' g.ps.length c', .bool g.cl] 27)))
      obtain ⟨m, hm⟩ : ∃ m, m = g.ps.length := ⟨_, rfl⟩
      have HM := hid hm
      rw [← hm] at c0 HV HB1 HP1 HPM
      have hml : m ≤ 2 ^ 63 - 1 := by have := HPM.out; unfold maxLen at this; omega
      clear hpc hpm HB HP hm
      go_wp2_with fail
      obtain ⟨W2, hW2⟩ : ∃ W2, W2 = wr.alloc (.cells #[.slice A' m c', .bool g.cl] 27) := ⟨_, rfl⟩
      rw [← hW2] at HV HB1 HP1
      rw [← hW2]
      clear hW2 c0 c1 hal
      have HIL := hid (show i < n from hlt)
      go_loopw [16] (fun s16 wx => ∃ (k : Nat), k ≤ m ∧ s16 = .int .i64 k ∧ Hid (lok ls = (okPs (g.ps.drop k) && lok (ls.drop (i + 1)))) ∧ Hid (Below W2.heap.size W2 wx)) (fun s16 _ => m - (intOf s16).toNat)
      case atStart => exact ⟨0, Nat.zero_le _, rfl, hid HC'.out, hid (Below.refl _ _)⟩
      case round =>
        clear HC'
        obtain ⟨k, hk, rfl, HC, HB⟩ := hrel
        by_cases hlt : k < m
        · have hkl : k < g.ps.length := by rw [← HM.out]; exact hlt
          obtain ⟨b, rfl, hbl, hsb⟩ := (HP1.out.next HB.out).at_ hkl
          have HC' := hid (HC.out.trans (by rw [okPs_drop hkl]))
          generalize g.ps[k] = q at hsb HC'
          obtain ⟨c0, c1⟩ := hsb
          have HB2 := hid (below_alloc HB.out (.cells (pcel q) 37))
          clear HC HB
          by_cases h1 : -32767 ≤ q.x ∧ q.x ≤ 32767
          · by_cases h2 : -32767 ≤ q.y ∧ q.y ≤ 32767
            · have HC2 := hid (show lok ls = (okPs (g.ps.drop (k + 1)) && lok (ls.drop (i + 1))) by rw [HC'.out, show okP q = true by unfold okP; rw [inB_yes h1, inB_yes h2]; rfl]; rfl)
              clear HC'
              go_wp2_with (go_at_call 33; (with_reducible refine (within_t _ _ (by assumption)).mono ?_); rintro e w' ⟨rfl, rfl⟩)
              go_roundw
              case rel => exact ⟨k + 1, by omega, by go_num, HC2, HB2⟩
              case measure => simp [intOf]; omega
            · have HC2 := hid (show lchk ls = 3 from lchk_f (by rw [HC'.out, show okP q = false by unfold okP; rw [inB_no h2, Bool.and_false]]; rfl))
              clear HC'
              go_wp2_with (go_at_call 33; first | ((with_reducible refine (within_t _ _ (by assumption)).mono ?_); rintro e w' ⟨rfl, rfl⟩) | ((with_reducible refine (within_f _ _ (by assumption)).mono ?_); rintro e w' ⟨rfl, rfl⟩))
              go_ret
              exact ⟨by rw [HC2.out]; rfl, below_next HB1.out HB2.out⟩
          · have HC2 := hid (show lchk ls = 3 from lchk_f (by rw [HC'.out, show okP q = false by unfold okP; rw [inB_no h1, Bool.false_and]]; rfl))
            clear HC'
            go_wp2_with (go_at_call 33; (with_reducible refine (within_f _ _ (by assumption)).mono ?_); rintro e w' ⟨rfl, rfl⟩)
            go_ret
            exact ⟨by rw [HC2.out]; rfl, below_next HB1.out HB2.out⟩
        · have HC2 := hid (show lok ls = lok (ls.drop (i + 1)) by rw [HC.out, List.drop_eq_nil_of_le (by have := HM.out; omega)]; rfl)
          have HB2 := hid (below_next HB1.out HB.out)
          clear HC HB
          go_wp2_with fail
          go_roundw
          case rel => exact ⟨i + 1, by have := HIL.out; omega, by go_num, HC2, HB2⟩
          case measure => have := HIL.out; simp [intOf]; omega
    · have HE := hid (show lchk ls = 0 from lchk_t (by rw [HC.out, List.drop_eq_nil_of_le (by have := HN.out; omega)]; rfl))
      go_wp2_with fail
      go_ret
      exact ⟨by rw [HE.out]; rfl, HB.out⟩
end Go.Proofs.Ytjflgblplmgjlaa
