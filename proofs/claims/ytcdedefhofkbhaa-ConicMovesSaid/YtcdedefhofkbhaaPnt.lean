/- What Points of package conic returns. -/
import Derived.Test.YtcdedefhofkbhaaRepl
import Derived.Test.YtcdedefhofkbhaaChk
namespace Go.Proofs.Ytcdedefhofkbhaa
open Go Go.RowKit
set_option linter.unusedVariables false
set_option linter.unusedSimpArgs false

abbrev mvS : Sg := ⟨1, 0, 0, 0, 0, 0⟩
abbrev fromS (p : P2) : Sg := ⟨1, p.x, p.y, 0, 0, 0⟩
/-- The error of Points. -/
def ptE (p : P2) (s : Sg) : Int := if s.k ≠ 2 ∧ s.k ≠ 3 then 14 else chk [mvS, s, fromS p]
def ptP (p : P2) (s : Sg) : List P2 := if ptE p s = 0 then replP p s else []
theorem wi4z {x y : Int} : Wi 32767 [x, y, 0, 0] ↔ (-32767 ≤ x ∧ x ≤ 32767) ∧ (-32767 ≤ y ∧ y ≤ 32767) := by
  rw [wi4]; omega
theorem chk_from (p : P2) (o : Bool) : chkSeg (fromS p) o = if (-32767 ≤ p.x ∧ p.x ≤ 32767) ∧ (-32767 ≤ p.y ∧ p.y ≤ 32767) then 0 else 3 := by
  unfold chkSeg
  rw [if_neg (by simp), if_neg (by simp), if_neg (by simp [mean])]
  simp only [wi4z]
  by_cases h : (-32767 ≤ p.x ∧ p.x ≤ 32767) ∧ (-32767 ≤ p.y ∧ p.y ≤ 32767)
  · rw [if_neg (fun k => k h), if_neg (by simp), if_pos h]
  · rw [if_pos h, if_neg h]
theorem ptE_eq (p : P2) (s : Sg) (hk : s.k = 2 ∨ s.k = 3) : ptE p s = if chkSeg s true = 0 then (if (-32767 ≤ p.x ∧ p.x ≤ 32767) ∧ (-32767 ≤ p.y ∧ p.y ≤ 32767) then 0 else 3) else chkSeg s true := by
  unfold ptE
  rw [if_neg (by omega)]
  unfold chk
  rw [if_neg (by simp)]
  have h0 : chkSeg mvS false = 0 := by decide
  rw [chkAll, if_pos h0]
  rw [show decide (mvS.k ≠ 4) = true by decide, chkAll]
  by_cases h : chkSeg s true = 0
  · rw [if_pos h, if_pos h, chkAll, chk_from, chkAll]
    split
    · rename_i hh; rw [if_pos rfl]
    · rename_i hh; rw [if_neg (by omega)]
  · rw [if_neg h, if_neg h]
theorem good_seg {s : Sg} {o : Bool} (h : chkSeg s o = 0) : (1 ≤ s.k ∧ s.k ≤ 4) ∧ s = mean s ∧ Wi 32767 [s.x, s.y, s.u, s.v] ∧ (s.k = 3 → 16 ≤ s.w ∧ s.w ≤ 4096) := by
  unfold chkSeg at h
  by_cases h1 : s.k < 1 ∨ 4 < s.k
  · rw [if_pos h1] at h; cases h
  · rw [if_neg h1] at h
    by_cases h2 : o = false ∧ s.k ≠ 1
    · rw [if_pos h2] at h; cases h
    · rw [if_neg h2] at h
      by_cases h3 : s ≠ mean s
      · rw [if_pos h3] at h; cases h
      · rw [if_neg h3] at h
        by_cases h4 : Wi 32767 [s.x, s.y, s.u, s.v]
        · rw [if_neg (by simpa using h4)] at h
          refine ⟨by omega, by simpa using h3, h4, fun h5 => ?_⟩
          by_cases h6 : s.w < 16 ∨ 4096 < s.w
          · rw [if_pos ⟨h5, h6⟩] at h; cases h
          · omega
        · rw [if_pos h4] at h; cases h
theorem ptE_good {p : P2} {s : Sg} (h : ptE p s = 0) : (s.k = 2 ∨ s.k = 3 ∧ InC (cuOf p s)) ∧ In3 p ∧ In3 ⟨s.x, s.y⟩ ∧ chkSeg s true = 0 := by
  have hk : s.k = 2 ∨ s.k = 3 := by
    unfold ptE at h
    by_cases hk : s.k ≠ 2 ∧ s.k ≠ 3
    · rw [if_pos hk] at h; cases h
    · omega
  rw [ptE_eq p s hk] at h
  by_cases hs : chkSeg s true = 0
  · rw [if_pos hs] at h
    by_cases hp : (-32767 ≤ p.x ∧ p.x ≤ 32767) ∧ (-32767 ≤ p.y ∧ p.y ≤ 32767)
    · obtain ⟨-, -, g3, g4⟩ := good_seg hs
      obtain ⟨a, b, c, d⟩ := wi4.1 g3
      refine ⟨?_, hp, ⟨a, b⟩, hs⟩
      rcases hk with hk | hk
      · exact .inl hk
      · exact .inr ⟨hk, ⟨hp, ⟨c, d⟩, ⟨a, b⟩, g4 hk⟩⟩
    · rw [if_neg hp] at h; cases h
  · rw [if_neg hs] at h; exact absurd h hs
theorem repl_any (p : P2) (s : Sg) (w : World) (h : s.k = 2 ∨ s.k = 3 ∧ InC (cuOf p s)) : Calls Try.prog 29 #[ptv p, seg s] w (GivesPts (replP p s) w) := by
  unfold replP
  rcases h with h | ⟨h, hc⟩
  · rw [if_pos h]; exact repl_line p s w h
  · rw [if_neg (by omega)]; exact repl_curve p s w h hc
theorem own_le {w : World} {B B' n : Nat} {v : Value} {xs : List Value} (h : B ≤ B') (ho : w.ownsRow B' 23 2 v n xs) : w.ownsRow B 23 2 v n xs := by
  refine ⟨ho.1, ?_⟩
  rcases ho.2 with h1 | ⟨g, cap, cur, h1, h2, h3⟩
  · exact .inl h1
  · exact .inr ⟨g, cap, cur, h1, Nat.le_trans h h2, h3⟩
/-- A call that returns a new row of points, and an error. -/
def GivesPE (E : Int) (ps : List P2) (w : World) (e : Ending) (w' : World) : Prop := ∃ v, e = .returned (.tuple #[v, .int .i64 E]) ∧ w'.ownsRow w.heap.size 23 2 v ps.length (pfl ps) ∧ Below w.heap.size w w'

theorem check3 (p : P2) (s : Sg) (c : Nat) (W : World) :
    Calls Try.prog 15 #[.slice (some ⟨W.heap.size, 0, none⟩) 3 c] (W.alloc (.cells #[.int .i64 1, .int .i64 0, .int .i64 0, .int .i64 0, .int .i64 0, .int .i64 0, .int .i64 s.k, .int .i64 s.x, .int .i64 s.y, .int .i64 s.u, .int .i64 s.v, .int .i64 s.w, .int .i64 1, .int .i64 p.x, .int .i64 p.y, .int .i64 0, .int .i64 0, .int .i64 0] 25))
      fun e w' => e = .returned (.int .i64 (chk [mvS, s, fromS p])) ∧ Below W.heap.size W w' :=
  (check_any (some ⟨W.heap.size, 0, none⟩) [mvS, s, fromS p] 3 c _ rfl (fun _ => (Var.new W (flat [mvS, s, fromS p]).toArray 25 _ rfl).segs)).mono fun e w' h => ⟨h.1, below_next (below_alloc (Below.refl _ W) _) h.2⟩

theorem points_kind (p : P2) (s : Sg) (w : World) (h : s.k ≠ 2 ∧ s.k ≠ 3) : Calls Try.prog 10 #[ptv p, seg s] w (GivesPE 14 [] w) := by
  have h2 : (s.k != 2) = true := by simp [h.1]
  have h3 : (s.k != 3) = true := by simp [h.2]
  clear h
  go_enter Try.func10, Try.ntmps10
  go_wp2_with fail
  go_ret2
  exact ⟨_, rfl, World.ownsRow_nil _ _ _ _, below_alloc (below_alloc (Below.refl _ w) _) _⟩

set_option maxHeartbeats 1000000 in
theorem points_rest (p : P2) (s : Sg) (w : World) (E : Int) (hE : chk [mvS, s, fromS p] = E) (hk : s.k = 2 ∨ s.k = 3) (hg : E = 0 → s.k = 2 ∨ s.k = 3 ∧ InC (cuOf p s)) (ps : List P2) (hp1 : E = 0 → ps = replP p s) (hp2 : E ≠ 0 → ps = []) :
    Calls Try.prog 10 #[ptv p, seg s] w (GivesPE E ps w) := by
  have HP1' := hid hp1
  have HP2' := hid hp2
  clear hp1 hp2
  have HE := hid hE
  have HG := hid hg
  clear hE hg
  have key : (s.k != 2) = false ∨ (s.k != 2) = true ∧ (s.k != 3) = false := by rcases hk with h | h <;> simp [h]
  clear hk
  obtain ⟨W, hW⟩ : ∃ W, W = (w.alloc (.cells (pcel p) 23)).alloc (.cells (cel s) 25) := ⟨_, rfl⟩
  have HP := hid (show Var W w.heap.size (pcel p) 23 by rw [hW]; exact (Var.new w _ _ _ rfl).alloc _)
  have HS := hid (show Var W (w.heap.size + 1) (cel s) 25 by rw [hW]; exact Var.new (w.alloc _) _ _ _ (by simp))
  have HB := hid (show Below w.heap.size w W by rw [hW]; exact below_alloc (below_alloc (Below.refl _ w) _) _)
  rcases key with h2 | ⟨h2, h3⟩
  all_goals
    go_enter Try.func10, Try.ntmps10
    go_upto_region 1 with fail
    rw [← hW]
    clear hW
    obtain ⟨p0, p1, p2, p3, p4, p5, pf⟩ := HS.out.read6
    obtain ⟨q0, q1, qf⟩ := HP.out.read2
    go_wp2_with fail
    clear p0 p1 p2 p3 p4 p5 pf q0 q1 qf
    (with_reducible refine (check3 p s _ W).mono ?_); rintro x0 w1 ⟨rfl, hb⟩
    have HP1 := hid (HP.out.next hb)
    have HS1 := hid (HS.out.next hb)
    have HB1 := hid (below_next HB.out hb)
    clear hb HP HS HB
    rw [HE.out]
    by_cases he : E = 0
    · have HR := hid (HG.out he)
      have HQ := hid (HP1'.out he)
      clear HP1' HP2'
      subst he
      clear HG HE
      obtain ⟨p0, p1, p2, p3, p4, p5, pf⟩ := HS1.out.read6
      obtain ⟨q0, q1, qf⟩ := HP1.out.read2
      go_wp2_with fail
      clear p0 p1 p2 p3 p4 p5 pf q0 q1 qf
      (with_reducible refine (repl_any p s _ HR.out).mono ?_); rintro x0 w2 ⟨v, rfl, ho, hb⟩
      have HO := hid ho
      have HB2 := hid (below_next HB1.out hb)
      have HL := hid (show w.heap.size ≤ w1.heap.size from HB1.out.size)
      clear ho hb HP1 HS1 HB1
      go_wp2_with fail
      go_ret2
      exact ⟨_, rfl, by rw [HQ.out]; exact own_le HL.out HO.out, HB2.out⟩
    · have hne : (E != 0) = true := by simp [he]
      have HQ := hid (HP2'.out he)
      clear he HG HE
      go_wp2_with fail
      go_ret2
      exact ⟨_, rfl, by rw [HQ.out]; exact World.ownsRow_nil _ _ _ _, HB1.out⟩
theorem points_any (p : P2) (s : Sg) (w : World) : Calls Try.prog 10 #[ptv p, seg s] w (GivesPE (ptE p s) (ptP p s) w) := by
  by_cases hk : s.k ≠ 2 ∧ s.k ≠ 3
  · have h : ptE p s = 14 := if_pos hk
    unfold ptP
    rw [h]
    exact points_kind p s w hk
  · have h : ptE p s = chk [mvS, s, fromS p] := if_neg hk
    exact points_rest p s w (ptE p s) h.symm (by omega) (fun he => (ptE_good he).1) _ (fun he => if_pos he) (fun he => if_neg he)

end Go.Proofs.Ytcdedefhofkbhaa
