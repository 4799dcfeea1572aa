/- Where a subpath ends: subpathEnd of package path, ends of the reference. -/
import Derived.Test.YtcdedefhofkbhaaRevM
import Derived.Test.YtcdedefhofkbhaaSlc
import Derived.Test.YtcdedefhofkbhaaRCheck
namespace Go.Proofs.Ytcdedefhofkbhaa
open Go Go.RowKit
set_option linter.unusedVariables false

/-- How many segments from j on begin no subpath. -/
def tw (ss : List Sg) (j : Nat) : Nat := ((ss.drop j).takeWhile fun s => decide (s.k ≠ 1)).length
theorem tw_move {ss : List Sg} {j : Nat} (h : j < ss.length) (hk : ss[j].k = 1) : tw ss j = 0 := by
  unfold tw
  rw [List.drop_eq_getElem_cons h, List.takeWhile_cons, if_neg (by simp [hk])]
  rfl
theorem tw_next {ss : List Sg} {j : Nat} (h : j < ss.length) (hk : ss[j].k ≠ 1) : tw ss j = tw ss (j + 1) + 1 := by
  unfold tw
  rw [List.drop_eq_getElem_cons h, List.takeWhile_cons, if_pos (by simp [hk])]
  rfl
theorem tw_end {ss : List Sg} {j : Nat} (h : ss.length ≤ j) : tw ss j = 0 := by
  unfold tw
  rw [List.drop_eq_nil_of_le h]
  rfl
theorem ends_tw (ss : List Sg) (i : Nat) : ends ss i = i + 1 + tw ss (i + 1) := rfl
theorem tw_le (ss : List Sg) (j : Nat) (h : j ≤ ss.length) : j + tw ss j ≤ ss.length := by
  unfold tw
  have := takeWhile_le (fun s => decide (s.k ≠ 1)) (ss.drop j)
  rw [List.length_drop] at this
  omega

theorem isMove_any (s : Sg) (w : World) : Calls Try.prog 46 #[seg s] w fun e w' => e = .returned (.bool (s.k == 1)) ∧ Below w.heap.size w w' := by
  go_enter Try.func46, Try.ntmps46
  go_wp2_with fail
  go_ret
  exact ⟨rfl, below_alloc (Below.refl _ w) _⟩
theorem enters_isMove : Enters Try.prog 46 := enters_of Try.func46 (by kernel_rfl) rfl

/-- What IndexFunc returns: the first one that begins a subpath, or -1. -/
def idx (ss : List Sg) : Int := if tw ss 0 < ss.length then (tw ss 0 : Int) else -1

set_option maxHeartbeats 1000000 in
theorem index_any (A : Option Addr) (ss : List Sg) (n c : Nat) (w : World) (hn : n = ss.length) (hs : Segs w A ss) (hl : ss.length ≤ 1000) :
    Calls Try.prog 45 #[.slice A n c, .func (.func 46) #[] #[]] w fun e w' => e = .returned (.int .i64 (idx ss)) ∧ Below w.heap.size w w' := by
  have HS := hid hs
  subst hn
  clear hs
  have EM : ∀ args w, (callFunc 46 args).run Try.prog w = .ok (.enter 46 args) w := enters_isMove
  go_enter Try.func45, Try.ntmps45
  go_wp2_with fail
  go_loopw [8] (fun s8 wr => ∃ j : Nat, j ≤ ss.length ∧ s8 = .int .i64 j ∧ Hid (tw ss 0 = j + tw ss j) ∧ Hid (Below w.heap.size w wr)) (fun s8 _ => ss.length - (intOf s8).toNat)
  case atStart => exact ⟨0, Nat.zero_le _, rfl, hid (by omega), hid (Below.refl _ w)⟩
  case round =>
    obtain ⟨j, hj, rfl, HT, HB⟩ := hrel
    by_cases hlt : j < ss.length
    · obtain ⟨a, rfl, hal, hsa⟩ := (HS.out.next HB.out).at_ hlt
      obtain ⟨c0, c1, c2, c3, c4, c5⟩ := hsa
      by_cases hk : ss[j].k = 1
      · have HI := hid (show (j : Int) = idx ss from by
          have := HT.out
          rw [tw_move hlt hk] at this
          unfold idx
          rw [this, if_pos (by omega)]
          simp)
        have HK := hid (show (ss[j].k == 1) = true by simp [hk])
        clear hk HT
        generalize ss[j] = g at c0 c1 c2 c3 c4 c5 HK
        go_wp2_with fail
        (with_reducible refine (isMove_any g _).mono ?_); rintro e w1 ⟨rfl, hb⟩
        have HB1 := hid (below_next HB.out hb)
        rw [HK.out]
        clear hb c0 c1 c2 c3 c4 c5
        go_wp2_with fail
        go_ret
        exact ⟨congrArg (fun z => Ending.returned (Value.int .i64 z)) HI.out, HB1.out⟩
      · have HT1 := hid (show tw ss 0 = (j + 1) + tw ss (j + 1) by have := HT.out; rw [tw_next hlt hk] at this; omega)
        have HK := hid (show (ss[j].k == 1) = false by simp [hk])
        clear hk HT
        generalize ss[j] = g at c0 c1 c2 c3 c4 c5 HK
        go_wp2_with fail
        (with_reducible refine (isMove_any g _).mono ?_); rintro e w1 ⟨rfl, hb⟩
        have HB1 := hid (below_next HB.out hb)
        rw [HK.out]
        clear hb c0 c1 c2 c3 c4 c5
        go_wp2_with fail
        go_roundw
        case rel => exact ⟨j + 1, by omega, by go_num, HT1, HB1⟩
        case measure => simp [intOf]; omega
    · have HI := hid (show (-1 : Int) = idx ss from by
        have := HT.out
        rw [tw_end (ss := ss) (j := j) (by omega)] at this
        unfold idx
        rw [if_neg (by omega)])
      go_wp2_with fail
      go_ret
      exact ⟨congrArg (fun z => Ending.returned (Value.int .i64 z)) HI.out, HB.out⟩

/-- A row from one of its segments on. -/
theorem Segs.drop {w : World} {a : Addr} {ss : List Sg} (h : Segs w (some a) ss) (i : Nat) : Segs w (some (a.add (i * 6))) (ss.drop i) := fun hn => by
  have hne : ss ≠ [] := fun e => hn (by rw [e]; simp)
  obtain ⟨a', e, hl, hr⟩ := h hne
  cases e
  refine ⟨_, rfl, by rw [add_block]; exact hl, fun j s hs => ?_⟩
  rw [add_add', ← Nat.add_mul]
  exact hr (i + j) s (by rw [List.getElem?_drop] at hs; exact hs)
theorem Segs.take {w : World} {A : Option Addr} {ss : List Sg} (h : Segs w A ss) (i : Nat) : Segs w A (ss.take i) := fun hn => by
  have hne : ss ≠ [] := fun e => hn (by rw [e]; simp)
  obtain ⟨a, rfl, hl, hr⟩ := h hne
  refine ⟨_, rfl, hl, fun j s hs => hr j s ?_⟩
  rw [List.getElem?_take] at hs
  split at hs
  · exact hs
  · cases hs

set_option maxHeartbeats 1000000 in
theorem subpathEnd_any (a : Addr) (ss : List Sg) (c i : Nat) (w : World) (hs : Segs w (some a) ss) (hl : ss.length ≤ 1000) (hi : i < ss.length) (hc : ss.length ≤ c) (hcm : c ≤ maxLen) :
    Calls Try.prog 31 #[.slice (some a) ss.length c, .int .i64 i] w fun e w' => e = .returned (.int .i64 (ends ss i)) ∧ Below w.heap.size w w' := by
  have HS := hid hs
  have hcc : (c : Int) ≤ 9223372036854775807 := by unfold maxLen at hcm; omega
  clear hs hcm
  have hdl : (ss.drop (i + 1)).length = ss.length - (i + 1) := List.length_drop
  have htw : tw (ss.drop (i + 1)) 0 = tw ss (i + 1) := by unfold tw; rw [List.drop_zero]
  have hle := tw_le ss (i + 1) (by omega)
  have HX := fun (A : Option Addr) (c' : Nat) (h : Segs w A (ss.drop (i + 1))) => index_any A (ss.drop (i + 1)) (ss.length - (i + 1)) c' w hdl.symm h (by omega)
  have HD := hid (HS.out.drop (i + 1))
  have HE := hid (show i + 1 = c → Segs w (some a) (ss.drop (i + 1)) from fun h => by rw [List.drop_eq_nil_of_le (by omega)]; exact Segs.nil _ _)
  by_cases ht : tw ss (i + 1) < ss.length - (i + 1)
  · have hx : idx (ss.drop (i + 1)) = ((tw ss (i + 1) : Nat) : Int) := by unfold idx; rw [htw, hdl, if_pos ht]
    rw [hx] at HX
    rw [ends_tw]
    have HXX := hid HX
    clear HX hx htw hdl hle
    generalize tw ss (i + 1) = t at HXX ht ⊢
    go_enter Try.func31, Try.ntmps31
    go_wp2_with fail
    (with_reducible refine (HXX.out _ _ HD.out).mono ?_); rintro e w1 ⟨rfl, hb⟩
    have HB := hid hb
    clear hb
    go_wp2_with fail
    go_ret
    exact ⟨by go_num, HB.out⟩
  · have hx : idx (ss.drop (i + 1)) = -1 := by unfold idx; rw [htw, hdl, if_neg ht]
    rw [hx] at HX
    have HN := hid (show ss.length = ends ss i by rw [ends_tw]; omega)
    have HXX := hid HX
    clear HX hx htw hdl hle ht
    go_enter Try.func31, Try.ntmps31
    go_wp2_with fail
    case inl =>
      have HG := hid (HE.out (by omega))
      (with_reducible refine (HXX.out _ _ HG.out).mono ?_); rintro e w1 ⟨rfl, hb⟩
      have HB := hid hb
      clear hb
      go_wp2_with fail
      go_ret
      exact ⟨by rw [← HN.out]; rfl, HB.out⟩
    case inr =>
      (with_reducible refine (HXX.out _ _ HD.out).mono ?_); rintro e w1 ⟨rfl, hb⟩
      have HB := hid hb
      clear hb
      go_wp2_with fail
      go_ret
      exact ⟨by rw [← HN.out]; rfl, HB.out⟩

set_option maxHeartbeats 1000000 in
theorem rends_any (A : Option Addr) (ss : List Sg) (n c i : Nat) (w : World) (hn : n = ss.length) (hs : Segs w A ss) (hl : ss.length ≤ 1000) (hi : i < ss.length) :
    Calls Try.prog 42 #[.slice A n c, .int .i64 i] w fun e w' => e = .returned (.int .i64 (ends ss i)) ∧ w = w' := by
  have HS := hid hs
  subst hn
  clear hs
  go_enter Try.func42, Try.ntmps42
  go_wp2_with fail
  go_loop [5] (fun s5 => ∃ j : Nat, j ≤ ss.length ∧ s5 = .int .i64 j ∧ Hid (ends ss i = j + tw ss j)) (fun s5 => ss.length - (intOf s5).toNat)
  case atStart => exact ⟨i + 1, by omega, by go_num, hid (ends_tw ss i)⟩
  case round =>
    obtain ⟨j, hj, rfl, HT⟩ := hrel
    by_cases hlt : j < ss.length
    · obtain ⟨a, rfl, hal, hsa⟩ := HS.out.at_ hlt
      obtain ⟨c0, -, -, -, -, -⟩ := hsa
      by_cases hk : ss[j].k = 1
      · have HI := hid (show j = ends ss i from by rw [HT.out, tw_move hlt hk]; rfl)
        rw [hk] at c0
        clear hk HT
        go_wp2_with fail
        go_ret
        exact ⟨by rw [← HI.out]; rfl, rfl⟩
      · have HT1 := hid (show ends ss i = (j + 1) + tw ss (j + 1) by rw [HT.out, tw_next hlt hk]; omega)
        have hb : (ss[j].k != 1) = true := by simp [hk]
        clear hk HT
        generalize ss[j] = g at c0 hb
        go_wp2_with fail
        go_round
        case rel => exact ⟨j + 1, by omega, by go_num, HT1⟩
        case measure => simp [intOf]; omega
    · have HI := hid (show j = ends ss i from by rw [HT.out, tw_end (ss := ss) (j := j) (by omega)]; rfl)
      go_wp2_with fail
      go_ret
      exact ⟨by rw [← HI.out]; rfl, rfl⟩

end Go.Proofs.Ytcdedefhofkbhaa
