/- What Check of package path and the reference's PathCheck return. -/
import Derived.Test.YtijkoaggcmgjiabDoorStep
namespace Go.Proofs.YtijkoaggcmgjiabDoor
open Go Go.RowKit
set_option linter.unusedVariables false

/-- The error of a segment, behind an open subpath or not. -/
def chkSeg (s : Sg) (o : Bool) : Int :=
  if s.k < 1 ∨ 4 < s.k then 14 else if o = false ∧ s.k ≠ 1 then 18 else if s ≠ mean s then 4 else if ¬ Wi 32767 [s.x, s.y, s.u, s.v] then 3
  else if s.k = 3 ∧ (s.w < 16 ∨ 4096 < s.w) then 3 else 0

theorem enters_meaning : Enters Tryd.prog 35 := enters_of Tryd.func35 (by kernel_rfl) rfl
theorem meaning_over {W : World} {u : Value} {s : Sg} {g : Bool} {w : World} (h : Over W g w) (hu : u = seg s) : Calls Tryd.prog 35 #[u] w fun r w' => r = .returned (seg (mean s)) ∧ Over W g w' := by
  subst hu
  exact (meaning_any _ w).mono fun r w' ⟨hr, hb⟩ => ⟨hr, h.next hb⟩

theorem checkSeg_kind (s : Sg) (o : Bool) (w : World) (h : s.k < 1 ∨ 4 < s.k) :
    Calls Tryd.prog 26 #[seg s, .bool o] w fun e w' => e = .returned (.int .i64 14) ∧ Below w.heap.size w w' := by
  by_cases h1 : s.k < 1
  · clear h
    go_enter Tryd.func26, Tryd.ntmps26
    go_wp2_with fail
    go_ret
    exact ⟨rfl, below_alloc (Below.refl _ w) _⟩
  · have h2 : 4 < s.k := by omega
    clear h
    go_enter Tryd.func26, Tryd.ntmps26
    go_wp2_with fail
    go_ret
    exact ⟨rfl, below_alloc (Below.refl _ w) _⟩

theorem checkSeg_order (s : Sg) (w : World) (h1 : 1 ≤ s.k) (h2 : s.k ≤ 4) (h3 : s.k ≠ 1) :
    Calls Tryd.prog 26 #[seg s, .bool false] w fun e w' => e = .returned (.int .i64 18) ∧ Below w.heap.size w w' := by
  have h4 : (s.k != 1) = true := by simp [h3]
  go_enter Tryd.func26, Tryd.ntmps26
  go_wp2_with fail
  go_ret
  exact ⟨rfl, below_alloc (Below.refl _ w) _⟩

set_option maxHeartbeats 1000000 in
theorem checkSeg_rest (s : Sg) (o : Bool) (r : Int) (w : World) (h1 : 1 ≤ s.k) (h2 : s.k ≤ 4) (h3 : o = true ∨ s.k = 1)
    (hr : r = if s ≠ mean s then 4 else if ¬ Wi 32767 [s.x, s.y, s.u, s.v] then 3 else if s.k = 3 ∧ (s.w < 16 ∨ 4096 < s.w) then 3 else 0) :
    Calls Tryd.prog 26 #[seg s, .bool o] w fun e w' => e = .returned (.int .i64 r) ∧ Below w.heap.size w w' := by
  have HR := hid hr
  clear hr
  obtain ⟨W, hW⟩ : ∃ W, W = w.alloc (.cells (cel s) 38) := ⟨_, rfl⟩
  have HV := hid (show Var W w.heap.size (cel s) 38 by rw [hW]; exact Var.new _ _ _ _ rfl)
  have HB := hid (show Below w.heap.size w W by rw [hW]; exact below_alloc (Below.refl _ w) _)
  have hk : o = true ∨ o = false ∧ (s.k != 1) = false := by rcases h3 with h | h; exact .inl h; cases o; exact .inr ⟨rfl, by simp [h]⟩; exact .inl rfl
  clear h3
  rcases hk with rfl | ⟨rfl, hk⟩
  all_goals
    go_enter Tryd.func26, Tryd.ntmps26
    go_upto_region 5 with fail
    rw [← hW]
    clear hW h1 h2
    rename_i Kn hKn
    refine wp_region_fan 3 1000 (Over W) (by kernel_rfl) (by kernel_rfl) (Over.start W) ?_
    simp only [List.take_succ_cons, List.take_zero, List.drop_succ_cons, List.drop_zero]
    have L2 := fun b w1 (h : Over W b w1) => Over.seg HV.out.segAt HV.out.lt h
    refine WalksE.sound _ _ _ _ ?_ ((Is.start _ (n := 48) rfl).pin 2 (v := .pointer (some ⟨w.heap.size, 0, none⟩)) rfl)
    generalize (fun i => Array.getD _ i undef) = g
    refine walks_with fun KQ hKQ => ?_
    (refine walks_one fun K hK => ?_); refine st_loadSeg L2 rfl rfl rfl ?_; refine hK _ ?_; clear hK K
    (refine walks_one fun K hK => ?_); refine st_loadSeg L2 rfl rfl rfl ?_; refine hK _ ?_; clear hK K
    (refine walks_one fun K hK => ?_); refine st_call rfl rfl (fun _ => run_call1 rfl enters_meaning) (fun _ _ h => meaning_over h rfl) ?_; refine hK _ ?_; clear hK K
    refine walks_end fun a9 ha9 => hKQ _ fun w1 hC => ?_
    have e20 : a9.eval (.tmp 20) = seg s := by rw [ha9.eval]; rfl
    have e22 : a9.eval (.tmp 22) = seg (mean s) := by rw [ha9.eval]; rfl
    refine tailV rfl rfl (run_neSeg e20 e22) ?_
    refine hKn _ _ ?_
    obtain ⟨g9, hg9, h2, h23⟩ : ∃ g9, Is (a9.put (some 23) (.bool (decide (s ≠ mean s)))) 48 g9 ∧ g9 2 = .pointer (some ⟨w.heap.size, 0, none⟩) ∧ g9 23 = .bool (decide (s ≠ mean s)) := ⟨_, ha9.put (d := 23) (by decide) _, rfl, rfl⟩
    have hw := hg9.whole
    rw [show ((List.range 48).map g9).toArray = #[g9 0, g9 1, g9 2, g9 3, g9 4, g9 5, g9 6, g9 7, g9 8, g9 9, g9 10, g9 11, g9 12, g9 13, g9 14, g9 15, g9 16, g9 17, g9 18, g9 19, g9 20, g9 21, g9 22, g9 23, g9 24, g9 25, g9 26, g9 27, g9 28, g9 29, g9 30, g9 31, g9 32, g9 33, g9 34, g9 35, g9 36, g9 37, g9 38, g9 39, g9 40, g9 41, g9 42, g9 43, g9 44, g9 45, g9 46, g9 47] from rfl] at hw
    rw [h2, h23] at hw
    rw [hw]
    have HV1 := hid (HV.out.next hC)
    have HB1 := hid (below_next HB.out hC)
    clear hw hC hg9 h2 h23 ha9 e20 e22 hKQ L2 KQ hKn HV HB
    by_cases hm : s = mean s
    · rw [if_neg (by simpa using hm)] at HR
      rw [show decide (s ≠ mean s) = false by simpa using hm]
      clear hm
      obtain ⟨p0, p1, p2, p3, p4, p5, pf⟩ := HV1.out.read6
      go_wp2_with fail
      clear p0 p1 p2 p3 p4 p5 pf
      (with_reducible refine (within_any 32767 [s.x, s.y, s.u, s.v] _ _ _ 4 _ (by omega) (by simp) rfl (Var.new w1 _ _ _ rfl).lies4).mono ?_); rintro x0 w2 ⟨rfl, hw⟩
      have HV2 := hid (show Var w2 _ _ _ by rw [← hw]; exact HV1.out.alloc _)
      have HB2 := hid (show Below _ _ w2 by rw [← hw]; exact below_alloc HB1.out _)
      clear hw HV1 HB1
      by_cases hwi : Wi 32767 [s.x, s.y, s.u, s.v]
      · rw [if_neg (by simpa using hwi)] at HR
        rw [show decide (Wi 32767 [s.x, s.y, s.u, s.v]) = true by simpa using hwi]
        clear hwi
        obtain ⟨p0, p1, p2, p3, p4, p5, pf⟩ := HV2.out.read6
        by_cases h3 : s.k = 3
        · by_cases h4 : s.w < 16
          · rw [if_pos ⟨h3, .inl h4⟩] at HR
            go_wp2_with fail
            go_ret
            exact ⟨(congrArg (fun z => Ending.returned (Value.int .i64 z)) HR.out).symm, HB2.out⟩
          · by_cases h5 : 4096 < s.w
            · rw [if_pos ⟨h3, .inr h5⟩] at HR
              go_wp2_with fail
              go_ret
              exact ⟨(congrArg (fun z => Ending.returned (Value.int .i64 z)) HR.out).symm, HB2.out⟩
            · rw [if_neg (by omega)] at HR
              go_wp2_with fail
              go_ret
              exact ⟨(congrArg (fun z => Ending.returned (Value.int .i64 z)) HR.out).symm, HB2.out⟩
        · rw [if_neg (by omega)] at HR
          go_wp2_with fail
          go_ret
          exact ⟨(congrArg (fun z => Ending.returned (Value.int .i64 z)) HR.out).symm, HB2.out⟩
      · rw [if_pos (by simpa using hwi)] at HR
        rw [show decide (Wi 32767 [s.x, s.y, s.u, s.v]) = false by simpa using hwi]
        clear hwi
        go_wp2_with fail
        go_ret
        exact ⟨(congrArg (fun z => Ending.returned (Value.int .i64 z)) HR.out).symm, HB2.out⟩
    · rw [if_pos (by simpa using hm)] at HR
      rw [show decide (s ≠ mean s) = true by simpa using hm]
      clear hm
      go_wp2_with fail
      go_ret
      exact ⟨(congrArg (fun z => Ending.returned (Value.int .i64 z)) HR.out).symm, HB1.out⟩

theorem checkSeg_any (s : Sg) (o : Bool) (w : World) : Calls Tryd.prog 26 #[seg s, .bool o] w fun e w' => e = .returned (.int .i64 (chkSeg s o)) ∧ Below w.heap.size w w' := by
  unfold chkSeg
  by_cases h1 : s.k < 1 ∨ 4 < s.k
  · rw [if_pos h1]; exact checkSeg_kind s o w h1
  · rw [if_neg h1]
    by_cases h2 : o = false ∧ s.k ≠ 1
    · rw [if_pos h2]; obtain ⟨rfl, h3⟩ := h2; exact checkSeg_order s w (by omega) (by omega) h3
    · rw [if_neg h2]
      refine checkSeg_rest s o _ w (by omega) (by omega) ?_ rfl
      cases o
      · exact .inr (Classical.byContradiction fun h => h2 ⟨rfl, h⟩)
      · exact .inl rfl

/-- The first error of the segments behind an open subpath or not. -/
def chkAll : Bool → List Sg → Int
  | _, [] => 0
  | o, s :: r => if chkSeg s o = 0 then chkAll (decide (s.k ≠ 4)) r else chkSeg s o
def chk (ss : List Sg) : Int := if 1000 < ss.length then 2 else chkAll false ss
theorem chkAll_at {o : Bool} {ss : List Sg} {j : Nat} (h : j < ss.length) : chkAll o (ss.drop j) = if chkSeg ss[j] o = 0 then chkAll (decide (ss[j].k ≠ 4)) (ss.drop (j + 1)) else chkSeg ss[j] o := by
  rw [List.drop_eq_getElem_cons h, chkAll]

theorem bne_dec (a b : Int) : (a != b) = decide (a ≠ b) := by by_cases h : a = b <;> simp [h]

theorem chk_le {ss : List Sg} (h : chk ss = 0) : ss.length ≤ 1000 := by
  unfold chk at h
  split at h <;> omega

theorem check_large (A : Option Addr) (n c : Nat) (w : World) (h : 1000 < n) :
    Calls Tryd.prog 17 #[.slice A n c] w fun e w' => e = .returned (.int .i64 2) ∧ Below w.heap.size w w' := by
  go_enter Tryd.func17, Tryd.ntmps17
  go_wp2_with fail
  go_ret
  exact ⟨rfl, Below.refl _ w⟩

set_option maxHeartbeats 1000000 in
theorem check_rest (A : Option Addr) (ss : List Sg) (n c : Nat) (w : World) (hn : n = ss.length) (h : n ≤ 1000) (hs : Segs w A ss) :
    Calls Tryd.prog 17 #[.slice A n c] w fun e w' => e = .returned (.int .i64 (chkAll false ss)) ∧ Below w.heap.size w w' := by
  have HS := hid hs
  have HN := hid hn
  clear hs hn
  go_enter Tryd.func17, Tryd.ntmps17
  go_wp2_with fail
  go_loopw [3, 12] (fun s3 s12 wr => ∃ (j : Nat) (o : Bool), j ≤ n ∧ s12 = .int .i64 j ∧ s3 = .bool o ∧ Hid (chkAll false ss = chkAll o (ss.drop j)) ∧ Hid (Below w.heap.size w wr)) (fun _ s12 _ => n - (intOf s12).toNat)
  case atStart => exact ⟨0, false, Nat.zero_le _, rfl, rfl, hid rfl, hid (Below.refl _ w)⟩
  case round =>
    obtain ⟨j, o, hj, rfl, rfl, HC, HB⟩ := hrel
    by_cases hlt : j < n
    · have hjl : j < ss.length := by rw [← HN.out]; exact hlt
      obtain ⟨a, rfl, hal, hsa⟩ := (HS.out.next HB.out).at_ hjl
      have HC' := hid (HC.out.trans (chkAll_at hjl))
      generalize ss[j] = g at hsa HC'
      obtain ⟨c0, c1, c2, c3, c4, c5⟩ := hsa
      have HW := hid (Var.new wr (cel g) 38 _ rfl)
      go_wp2_with fail
      (with_reducible refine (checkSeg_any g o _).mono ?_); rintro x0 w1 ⟨rfl, hb⟩
      have HW1 := hid (HW.out.next hb)
      have HB1 := hid (below_next (below_alloc HB.out (.cells (cel g) 38)) hb)
      clear hb HW HB c0 c1 c2 c3 c4 c5
      by_cases he : chkSeg g o = 0
      · rw [if_pos he] at HC'
        rw [he]
        clear he
        obtain ⟨p0, p1, p2, p3, p4, p5, pf⟩ := HW1.out.read6
        go_wp2_with fail
        clear p0 p1 p2 p3 p4 p5 pf
        go_roundw
        case rel => exact ⟨j + 1, decide (g.k ≠ 4), by omega, by go_num, congrArg Value.bool (bne_dec _ _), HC', HB1⟩
        case measure => simp [intOf]; omega
      · rw [if_neg he] at HC'
        have hne : (chkSeg g o != 0) = true := by simp [he]
        clear he
        go_wp2_with fail
        go_ret
        exact ⟨congrArg (fun z => Ending.returned (Value.int .i64 z)) HC'.out.symm, HB1.out⟩
    · have hd : chkAll o (ss.drop j) = 0 := by rw [List.drop_eq_nil_of_le (by rw [← HN.out]; omega)]; rfl
      have HD := hid (HC.out.trans hd)
      clear hd HC
      go_wp2_with fail
      go_ret
      exact ⟨congrArg (fun z => Ending.returned (Value.int .i64 z)) HD.out.symm, HB.out⟩

theorem check_any (A : Option Addr) (ss : List Sg) (n c : Nat) (w : World) (hn : n = ss.length) (hs : n ≤ 1000 → Segs w A ss) :
    Calls Tryd.prog 17 #[.slice A n c] w fun e w' => e = .returned (.int .i64 (chk ss)) ∧ Below w.heap.size w w' := by
  unfold chk
  by_cases h : 1000 < ss.length
  · rw [if_pos h]; exact check_large A n c w (by omega)
  · rw [if_neg h]; exact check_rest A ss n c w hn (by omega) (hs (by omega))

end Go.Proofs.YtijkoaggcmgjiabDoor
