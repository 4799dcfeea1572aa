/- The shifts that package morph goes over. -/
import Derived.Test.YtldbpabnfjnpbaaMSeq
namespace Go.Proofs.Ytldbpabnfjnpbaa
open Go Go.RowKit Go.Shelf
attribute [local go_sem] Oper.semAt_some
set_option linter.unusedVariables false

/-- What is left of the shifts: in part i, r being reached. -/
def tl (w i r : Nat) : List Int := if i = 0 then hs w r ++ (hs w 0).map fun s => -s else if i = 1 then (hs w r).map fun s => -s else []
def sgn (i : Nat) : Int := if i = 0 then 1 else -1
theorem tl_step {w i r : Nat} (hi : i < 2) (hr : r < w) : tl w i r = (sgn i * ((min (r + 1) (w - r) : Nat) : Int)) :: tl w i (r + min (r + 1) (w - r)) := by
  unfold tl sgn
  rcases (show i = 0 ∨ i = 1 by omega) with rfl | rfl
  · rw [if_pos rfl, if_pos rfl, if_pos rfl, hs_lt hr, List.cons_append, Int.one_mul]
  · rw [if_neg (by omega), if_pos rfl, if_neg (by omega), if_neg (by omega), if_pos rfl, hs_lt hr, List.map_cons]
    congr 1
    omega
theorem tl_end {w i r : Nat} (hi : i < 2) (hr : w ≤ r) : tl w i r = tl w (i + 1) 0 := by
  unfold tl
  rcases (show i = 0 ∨ i = 1 by omega) with rfl | rfl
  · rw [if_pos rfl, if_neg (by omega), if_pos rfl, hs_ge hr]; rfl
  · rw [if_neg (by omega), if_pos rfl, if_neg (by omega), if_neg (by omega), hs_ge hr]; rfl
theorem drop_cons {l t : List Int} {k : Nat} {s : Int} (h : l.drop k = s :: t) : k < l.length ∧ l[k]? = some s ∧ l.drop (k + 1) = t := by
  have hk : k < l.length := by
    rcases Nat.lt_or_ge k l.length with h' | h'
    · exact h'
    · rw [List.drop_eq_nil_of_le h'] at h; cases h
  rw [List.drop_eq_getElem_cons hk] at h
  have h1 := (List.cons.inj h).1
  exact ⟨hk, by rw [List.getElem?_eq_getElem hk, h1], (List.cons.inj h).2⟩
/-- v is shift k. -/
def StAt (w : Nat) (k : Nat) (v : Value) (A : World) : Prop := ∃ s, (stL w)[k]? = some s ∧ v = .int .i64 s

theorem run_way0 (w : World) : (Instr.index 106 (.agg #[.int .i64 1, .int .i64 (-1)]) (.int .i64 0)).run Try.prog w = .ok (.int .i64 1) w := by
  simp [Instr.index, run_underlying Try.underlying106, asIntOf, go_sem]
theorem run_way1 (w : World) : (Instr.index 106 (.agg #[.int .i64 1, .int .i64 (-1)]) (.int .i64 1)).run Try.prog w = .ok (.int .i64 (-1)) w := by
  simp [Instr.index, run_underlying Try.underlying106, asIntOf, go_sem]
attribute [local go_sem] run_way0 run_way1

theorem steps_make (d : Int) (w : World) :
    Calls Try.prog 77 #[.int .i64 d] w fun e w' => e = .returned (.func (.func 97) #[] #[.pointer (some ⟨w.heap.size, 0, none⟩)]) ∧ w' = w.alloc (.cells #[.int .i64 d] 3) := by
  go_enter Try.func77, Try.ntmps77
  go_wp2_with fail
  go_ret
  exact ⟨rfl, rfl⟩

set_option maxRecDepth 100000 in
set_option maxHeartbeats 2000000 in
theorem steps_iter (m : Nat) (hm : 1 ≤ m) (w b : Nat) (I : Nat → World → Prop) (hw : w ≤ 64)
    (hI : ∀ k A, I k A → A.cell? ⟨b, 0, none⟩ = some (.int .i64 w)) : SeqRows Fence.wide m Try.prog 97 #[.pointer (some ⟨b, 0, none⟩)] (StAt w) (stL w).length I := by
  intro l J Jx V hJ hJI hY h0
  have HI := hid hI
  have HJ := hid hJ
  have HJI := hid hJI
  have HY := hid hY
  have H0 := hid h0
  clear hI hJ hJI hY h0
  refine callsIn_of_wp Try.func97 rfl trivial ?_ rfl
  simp only [Try.ntmps97, List.size_toArray, List.length_cons, List.length_nil, Nat.reduceAdd, Nat.reduceSub, Array.replicate_succ, Array.replicate_zero, List.push_toArray, List.append_toArray, List.nil_append, List.cons_append]
  gi_wp2
  gi_loopw [8] (fun s8 wr => ∃ i k : Nat, i ≤ 2 ∧ k ≤ (stL w).length ∧ s8 = .int .i64 i ∧ Hid (J k wr ∧ (stL w).drop k = tl w i 0)) (fun s8 _ => 2 - (intOf s8).toNat)
  case atStart => exact ⟨0, 0, by omega, Nat.zero_le _, rfl, hid ⟨H0.out, rfl⟩⟩
  case round =>
    clear H0
    obtain ⟨i, k, hi, hk, rfl, HK⟩ := hrel
    rcases (show i = 0 ∨ i = 1 ∨ i = 2 by omega) with rfl | rfl | rfl
    · clear hi
      rw [show ((0 : Nat) : Int) = (0 : Int) from rfl]
      gi_wp2
      gi_loopw [5] (fun s5 wr => ∃ r k : Nat, r ≤ w ∧ k ≤ (stL w).length ∧ s5 = .int .i64 r ∧ Hid (J k wr ∧ (stL w).drop k = tl w 0 r)) (fun s5 _ => w - (intOf s5).toNat)
      case atStart => exact ⟨0, k, Nat.zero_le _, hk, rfl, HK⟩
      case round =>
        clear HK
        obtain ⟨r, k, hr, hk, rfl, HK⟩ := hrel
        have c := HI.out _ _ (HJI.out _ _ HK.out.1)
        by_cases hlt : r < w
        · obtain ⟨d1, d2, d3⟩ := drop_cons (HK.out.2.trans (tl_step (i := 0) (by omega) hlt))
          have D1 := hid d1
          have D2 := hid d2
          have D3 := hid d3
          clear d1 d2 d3
          by_cases hle : (r : Int) + 1 ≤ (w : Int) - (r : Int)
          · have E := hid (show ((min (r + 1) (w - r) : Nat) : Int) = (r : Int) + 1 by omega)
            obtain ⟨fn, tmps, assign, body, hy, hR⟩ := HY.out k (.int .i64 ((r : Int) + 1)) _ HK.out.1 D1.out ⟨_, D2.out, by rw [E.out]; unfold sgn; simp⟩
            gi_wp2
            refine hR.mono ?_
            rintro e w4 (⟨rfl, hJ4⟩ | ⟨rfl, hX4⟩)
            · gi_wp2
              go_roundw
              case rel => exact ⟨r + min (r + 1) (w - r), k + 1, by omega, by have := D1.out; omega, by go_num, hid ⟨hJ4, D3.out⟩⟩
              case measure => simp [intOf]; omega
            · gi_wp2
              refine bodyPost_ret (results_none rfl _ _ _) rfl ?_
              exact ⟨⟨_, rfl⟩, .inr ⟨k, D1.out, hX4⟩⟩
          · have E := hid (show ((min (r + 1) (w - r) : Nat) : Int) = (w : Int) - (r : Int) by omega)
            have hgt : (w : Int) - (r : Int) < (r : Int) + 1 := by omega
            obtain ⟨fn, tmps, assign, body, hy, hR⟩ := HY.out k (.int .i64 ((w : Int) - (r : Int))) _ HK.out.1 D1.out ⟨_, D2.out, by rw [E.out]; unfold sgn; simp⟩
            gi_wp2
            refine hR.mono ?_
            rintro e w4 (⟨rfl, hJ4⟩ | ⟨rfl, hX4⟩)
            · gi_wp2
              go_roundw
              case rel => exact ⟨r + min (r + 1) (w - r), k + 1, by omega, by have := D1.out; omega, by go_num, hid ⟨hJ4, D3.out⟩⟩
              case measure => simp [intOf]; omega
            · gi_wp2
              refine bodyPost_ret (results_none rfl _ _ _) rfl ?_
              exact ⟨⟨_, rfl⟩, .inr ⟨k, D1.out, hX4⟩⟩
        · have HK2 := hid (show J k wr ∧ (stL w).drop k = tl w (0 + 1) 0 from ⟨HK.out.1, HK.out.2.trans (tl_end (by omega) (by omega))⟩)
          gi_wp2
          go_roundw
          case rel => exact ⟨0 + 1, k, by omega, hk, by go_num, HK2⟩
          case measure => simp [intOf]
    · clear hi
      rw [show ((1 : Nat) : Int) = (1 : Int) from rfl]
      gi_wp2
      gi_loopw [5] (fun s5 wr => ∃ r k : Nat, r ≤ w ∧ k ≤ (stL w).length ∧ s5 = .int .i64 r ∧ Hid (J k wr ∧ (stL w).drop k = tl w 1 r)) (fun s5 _ => w - (intOf s5).toNat)
      case atStart => exact ⟨0, k, Nat.zero_le _, hk, rfl, HK⟩
      case round =>
        clear HK
        obtain ⟨r, k, hr, hk, rfl, HK⟩ := hrel
        have c := HI.out _ _ (HJI.out _ _ HK.out.1)
        by_cases hlt : r < w
        · obtain ⟨d1, d2, d3⟩ := drop_cons (HK.out.2.trans (tl_step (i := 1) (by omega) hlt))
          have D1 := hid d1
          have D2 := hid d2
          have D3 := hid d3
          clear d1 d2 d3
          by_cases hle : (r : Int) + 1 ≤ (w : Int) - (r : Int)
          · have E := hid (show ((min (r + 1) (w - r) : Nat) : Int) = (r : Int) + 1 by omega)
            obtain ⟨fn, tmps, assign, body, hy, hR⟩ := HY.out k (.int .i64 (-((r : Int) + 1))) _ HK.out.1 D1.out ⟨_, D2.out, by rw [E.out]; unfold sgn; simp⟩
            gi_wp2
            refine hR.mono ?_
            rintro e w4 (⟨rfl, hJ4⟩ | ⟨rfl, hX4⟩)
            · gi_wp2
              go_roundw
              case rel => exact ⟨r + min (r + 1) (w - r), k + 1, by omega, by have := D1.out; omega, by go_num, hid ⟨hJ4, D3.out⟩⟩
              case measure => simp [intOf]; omega
            · gi_wp2
              refine bodyPost_ret (results_none rfl _ _ _) rfl ?_
              exact ⟨⟨_, rfl⟩, .inr ⟨k, D1.out, hX4⟩⟩
          · have E := hid (show ((min (r + 1) (w - r) : Nat) : Int) = (w : Int) - (r : Int) by omega)
            have hgt : (w : Int) - (r : Int) < (r : Int) + 1 := by omega
            obtain ⟨fn, tmps, assign, body, hy, hR⟩ := HY.out k (.int .i64 (-((w : Int) - (r : Int)))) _ HK.out.1 D1.out ⟨_, D2.out, by rw [E.out]; unfold sgn; simp⟩
            gi_wp2
            refine hR.mono ?_
            rintro e w4 (⟨rfl, hJ4⟩ | ⟨rfl, hX4⟩)
            · gi_wp2
              go_roundw
              case rel => exact ⟨r + min (r + 1) (w - r), k + 1, by omega, by have := D1.out; omega, by go_num, hid ⟨hJ4, D3.out⟩⟩
              case measure => simp [intOf]; omega
            · gi_wp2
              refine bodyPost_ret (results_none rfl _ _ _) rfl ?_
              exact ⟨⟨_, rfl⟩, .inr ⟨k, D1.out, hX4⟩⟩
        · have HK2 := hid (show J k wr ∧ (stL w).drop k = tl w (1 + 1) 0 from ⟨HK.out.1, HK.out.2.trans (tl_end (by omega) (by omega))⟩)
          gi_wp2
          go_roundw
          case rel => exact ⟨1 + 1, k, by omega, hk, by go_num, HK2⟩
          case measure => simp [intOf]
    · have hkl : k = (stL w).length := by
        have h1 := HK.out.2
        have h2 : tl w 2 0 = [] := rfl
        rw [h2] at h1
        have h3 := congrArg List.length h1
        rw [List.length_drop] at h3
        simp at h3
        omega
      subst hkl
      gi_wp2
      go_end0
      exact ⟨⟨_, rfl⟩, .inl HK.out.1⟩
end Go.Proofs.Ytldbpabnfjnpbaa
