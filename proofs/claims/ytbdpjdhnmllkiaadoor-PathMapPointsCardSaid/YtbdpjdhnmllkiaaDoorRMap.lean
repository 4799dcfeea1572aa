/- What the reference's PathMap returns. -/
import Derived.Test.YtbdpjdhnmllkiaaDoorMap
import Derived.Test.YtbdpjdhnmllkiaaDoorRCheck
import Derived.Test.YtbdpjdhnmllkiaaDoorAfRApp
namespace Go.Proofs.YtbdpjdhnmllkiaaDoor
open Go Go.RowKit
set_option linter.unusedVariables false
set_option linter.unusedSimpArgs false

theorem rapply_any (m : Mat) (x y : Int) (w : World) : Calls Tryd.prog 48 #[mat m, pt x y] w fun e w' => e = .returned (.tuple #[pt (ap m x y).1 (ap m x y).2.1, .int .i64 (ap m x y).2.2]) ∧ Below w.heap.size w w' :=
  Af.rapp_any _ _ _ _ _ _ _ _ _ _ _ w (ap_is m x y)
theorem rcheck_mat (m : Mat) (w : World) : Calls Tryd.prog 47 #[mat m] w fun r w' => r = .returned (.int .i64 (errMat m)) ∧ Below w.heap.size w w' := Af.mchk_any _ _ _ _ _ _ w
/-- One proof for goals that are alike. -/
theorem share {T G : Prop} (h : T → G) (t : T) : G := h t
theorem own_nil (w : World) (B : Nat) : w.ownsRow B 32 6 (.slice none 0 0) 0 (flat []) := ⟨rfl, .inl ⟨rfl, rfl⟩⟩

theorem rmap_bad (A : Option Addr) (ss : List Sg) (n c : Nat) (m : Mat) (w : World) (hn : n = ss.length) (hs : n ≤ 1000 → Segs w A ss) (h : chk ss ≠ 0) :
    Calls Tryd.prog 24 #[.slice A n c, mat m] w fun e w' => e = .returned (.tuple #[.slice none 0 0, .int .i64 (chk ss)]) ∧ Below w.heap.size w w' := by
  have HC := fun w1 (h : n ≤ 1000 → Segs w1 A ss) => hid (rcheck_any A ss n c w1 hn h)
  have hne : (chk ss != 0) = true := by simp [h]
  have HS := hid hs
  clear hs hn h
  generalize chk ss = r at HC hne
  have HB := hid (below_alloc (Below.refl _ w) (.cells (mcel m) 41))
  go_enter Tryd.func24, Tryd.ntmps24
  go_wp2_with fail
  (with_reducible refine (HC _ (fun k => (HS.out k).next HB.out)).out.mono ?_); rintro e w1 ⟨rfl, hb⟩
  replace HB := hid (below_next HB.out hb)
  clear hb
  go_wp2_with fail
  go_ret2
  exact ⟨rfl, HB.out⟩
theorem rmap_mat (A : Option Addr) (ss : List Sg) (n c : Nat) (m : Mat) (w : World) (hn : n = ss.length) (hs : Segs w A ss) (h : chk ss = 0) (hm : errMat m ≠ 0) :
    Calls Tryd.prog 24 #[.slice A n c, mat m] w fun e w' => e = .returned (.tuple #[.slice none 0 0, .int .i64 (errMat m)]) ∧ Below w.heap.size w w' := by
  have HC := fun w1 (h : Segs w1 A ss) => hid (rcheck_any A ss n c w1 hn fun _ => h)
  have HM := fun w1 => hid (rcheck_mat m w1)
  have hne : (errMat m != 0) = true := by simp [hm]
  rw [h] at HC
  have HS := hid hs
  clear hs hn h hm
  generalize errMat m = r at HM hne
  have HV := hid (Var.new w (mcel m) 41 _ rfl)
  have HB := hid (below_alloc (Below.refl _ w) (.cells (mcel m) 41))
  go_enter Tryd.func24, Tryd.ntmps24
  go_wp2_with fail
  (with_reducible refine (HC _ (HS.out.next HB.out)).out.mono ?_); rintro e w1 ⟨rfl, hb⟩
  replace HB := hid (below_next HB.out hb)
  replace HV := hid (HV.out.next hb)
  clear hb
  obtain ⟨q0, q1, q2, q3, q4, q5, qf⟩ := HV.out.read6
  go_wp2_with fail
  clear q0 q1 q2 q3 q4 q5 qf
  (with_reducible refine (HM _).out.mono ?_); rintro e w2 ⟨rfl, hb⟩
  replace HB := hid (below_next HB.out hb)
  clear hb
  go_wp2_with fail
  go_ret2
  exact ⟨rfl, HB.out⟩

set_option maxHeartbeats 6400000 in
set_option maxRecDepth 100000 in
theorem rmap_good (A : Option Addr) (ss : List Sg) (n c : Nat) (m : Mat) (w : World) (hn : n = ss.length) (hs : Segs w A ss) (h : chk ss = 0) (hm : errMat m = 0) :
    Calls Tryd.prog 24 #[.slice A n c, mat m] w fun e w' => (mapErr m ss ≠ 0 ∧ e = .returned (.tuple #[.slice none 0 0, .int .i64 (mapErr m ss)]) ∨ mapErr m ss = 0 ∧ ∃ v, e = .returned (.tuple #[v, .int .i64 0]) ∧ w'.ownsRow (w.heap.size + 1) 32 6 v n (flat (ss.map (im m)))) ∧ Below w.heap.size w w' := by
  have hle := chk_le h
  have HC := fun w1 (h : Segs w1 A ss) => hid (rcheck_any A ss n c w1 hn fun _ => h)
  have HM := fun w1 => hid (rcheck_mat m w1)
  rw [h] at HC
  rw [hm] at HM
  have HS := hid hs
  subst hn
  clear hs h hm
  have HV := hid (Var.new w (mcel m) 41 _ rfl)
  have HB := hid (below_alloc (Below.refl _ w) (.cells (mcel m) 41))
  go_enter Tryd.func24, Tryd.ntmps24
  go_wp2_with fail
  (with_reducible refine (HC _ (HS.out.next HB.out)).out.mono ?_); rintro e w1 ⟨rfl, hb⟩
  replace HB := hid (below_next HB.out hb)
  replace HV := hid (HV.out.next hb)
  clear hb
  obtain ⟨q0, q1, q2, q3, q4, q5, qf⟩ := HV.out.read6
  go_wp2_with fail
  clear q0 q1 q2 q3 q4 q5 qf
  (with_reducible refine (HM _).out.mono ?_); rintro e w2 ⟨rfl, hb⟩
  replace HB := hid (below_next HB.out hb)
  replace HV := hid (HV.out.next hb)
  clear hb HC HM
  have HBL := hid (show w.heap.size + 1 ≤ w2.heap.size from HV.out.lt)
  have HO := hid (own_nil w2 (w.heap.size + 1))
  have HB3 := hid (Below.refl (w.heap.size + 1) w2)
  go_wp2_with fail
  go_loopw [8, 27] (fun s8 s27 wr => ∃ j : Nat, j ≤ ss.length ∧ s27 = .int .i64 j ∧ Hid (mapErr m ss = mapErr m (ss.drop j)) ∧ Hid (wr.ownsRow (w.heap.size + 1) 32 6 s8 j (flat ((ss.map (im m)).take j))) ∧ Hid (Below (w.heap.size + 1) w2 wr)) (fun _ s27 _ => ss.length - (intOf s27).toNat)
  case atStart => exact ⟨0, Nat.zero_le _, rfl, hid rfl, HO, HB3⟩
  case round =>
    obtain ⟨j, hj, rfl, HE, HJ, HBJ⟩ := hrel
    have HBW := hid (show Below w.heap.size w wr from HB.out.trans (HBJ.out.mono (Nat.le_succ _)))
    by_cases hlt : j < ss.length
    · obtain ⟨a, rfl, hal, hsa⟩ := (HS.out.next HBW.out).at_ hlt
      have HE1 := hid (HE.out.trans (mapErr_at hlt))
      have HW := hid (map_take (m := m) hlt)
      have HVJ := hid (HV.out.below HBJ.out (Nat.lt_succ_self _))
      generalize ss[j] = g at hsa HE1 HW
      obtain ⟨c0, c1, c2, c3, c4, c5⟩ := hsa
      have HX := hid (below_alloc (Below.refl _ wr) (.cells (cel g) 32))
      have HVG := hid (Var.new wr (cel g) 32 _ rfl)
      have HRL := hid (Nat.le_trans HBL.out HBJ.out.size)
      go_upto_region 12 with fail
      clear c0 c1 c2 c3 c4 c5 HE
      generalize wr.alloc _ = wx at HVG HX ⊢
      obtain ⟨s0, s1, s2, s3, s4, s5, sf⟩ := HVG.out.read6
      by_cases h4 : g.k = 4
      case pos =>
        have hb4 : (g.k != 4) = false := by simp [h4]
        rw [show mapR m g = (g, 0) from if_pos h4] at HE1
        rw [show im m g = g from congrArg Prod.fst (show mapR m g = (g, 0) from if_pos h4)] at HW
        replace HE1 := hid (HE1.out.trans (if_pos rfl))
        clear h4
        have HJ5 := hid (own_next HJ.out HX.out)
        have H5L := hid (Nat.le_trans HRL.out HX.out.size)
        go_wp2_with (at_builtin; refine wpList_append_seg (xs := (ss.map (im m)).take j) (g := g) rfl _ _ rfl H5L.out rfl rfl HJ5.out (by omega) ?_)
        intro v6 w6 hown hb
        rw [← HW.out] at hown
        have HO6 := hid hown
        have HB6 := hid ((HBJ.out.trans (HX.out.mono HRL.out)).trans hb)
        clear hown hb s0 s1 s2 s3 s4 s5 sf HJ5
        go_wp2_with fail
        go_roundw
        case rel => exact ⟨j + 1, by omega, by go_num, HE1, HO6, HB6⟩
        case measure => simp [intOf]; omega
      case neg =>
        have hb4 : (g.k != 4) = true := by simp [h4]
        have HR := hid (show mapR m g = _ from (show mapR m g = if g.k = 4 then (g, 0) else _ from rfl).trans (if_neg h4))
        clear h4
        obtain ⟨q0, q1, q2, q3, q4, q5, qf⟩ := (HVJ.out.next HX.out).read6
        go_wp2_with fail
        clear s0 s1 s2 s3 s4 s5 sf q0 q1 q2 q3 q4 q5 qf
        (with_reducible refine (rapply_any m g.x g.y _).mono ?_); rintro e w4 ⟨rfl, hb⟩
        have HQ := fun w => hid (rapply_any m g.u g.v w)
        generalize ap m g.x g.y = z at HR ⊢
        generalize ap m g.u g.v = z' at HQ HR
        obtain ⟨X, Y, r⟩ := z
        obtain ⟨X', Y', r'⟩ := z'
        simp only at HQ HR ⊢
        have HLT := hid (show wr.heap.size < w4.heap.size from Nat.lt_of_lt_of_le HVG.out.lt hb.size)
        have HVA := hid (Var.new w4 (pc X Y) 36 _ rfl)
        replace HVG := hid ((HVG.out.next hb).alloc (.cells (pc X Y) 36))
        replace HX := hid ((below_next HX.out hb).alloc (below_next HX.out hb).size (.cells (pc X Y) 36))
        clear hb
        go_upto_region 14 with fail
        generalize w4.alloc _ = w5 at HVA HVG HX ⊢
        by_cases hr : r = 0
        case neg =>
          have hne : (r != 0) = true := by simp [hr]
          replace HR := hid (HR.out.trans (if_pos hr))
          rw [HR.out] at HE1
          have HEN := hid (show mapErr m ss ≠ 0 by rw [HE1.out, if_neg hr]; exact hr)
          have HEE := hid (show mapErr m ss = r by rw [HE1.out, if_neg hr])
          have HBX := hid (HBW.out.trans (HX.out.mono (Nat.le_trans (Nat.le_succ _) HRL.out)))
          clear hr
          go_wp2_with fail
          go_ret2
          exact ⟨.inl ⟨HEN.out, by rw [HEE.out]; rfl⟩, HBX.out⟩
        case pos =>
          subst hr
          replace HR := hid (HR.out.trans (if_neg (fun k => k rfl)))
          obtain ⟨s0, s1, s2, s3, s4, s5, sf⟩ := HVG.out.read6
          obtain ⟨i0, i1, if_⟩ := HVA.out.read2
          have hlt' := HLT.out
          go_upto_region 16 with fail
          rename_i Kn16 hK16
          apply share
          case h =>
            intro key
            go_region_with fail
            all_goals exact key
          refine hK16 _ _ ?_
          have HG6 := hid (show Var ((w5.setCell ⟨wr.heap.size, 1, none⟩ (.int .i64 X)).setCell ⟨wr.heap.size, 2, none⟩ (.int .i64 Y)).drew wr.heap.size (cel ⟨g.k, X, Y, g.u, g.v, g.w⟩) 32 from ((HVG.out.set (i := 1) (.int .i64 X)).set (i := 2) (.int .i64 Y)).drew)
          have HX6 := hid (((HX.out.setCell (p := ⟨wr.heap.size, 1, none⟩) (Nat.le_refl _) (.int .i64 X)).setCell (p := ⟨wr.heap.size, 2, none⟩) (Nat.le_refl _) (.int .i64 Y)).drew)
          clear s0 s1 s2 s3 s4 s5 sf i0 i1 if_ hlt' HVG HX HVA HLT hK16
          generalize ((w5.setCell _ _).setCell _ _).drew = W6 at HG6 HX6 ⊢
          obtain ⟨s0, s1, s2, s3, s4, s5, sf⟩ := HG6.out.read6
          by_cases h3 : g.k = 3
          case neg =>
            have hb3 : (g.k == 3) = false := by simp [h3]
            replace HR := hid (HR.out.trans (if_neg h3))
            clear h3
            rw [HR.out] at HE1
            rw [show im m g = ⟨g.k, X, Y, g.u, g.v, g.w⟩ from congrArg Prod.fst HR.out] at HW
            replace HE1 := hid (HE1.out.trans (if_pos rfl))
            have HJ5 := hid (own_next HJ.out HX6.out)
            have H5L := hid (Nat.le_trans HRL.out HX6.out.size)
            go_wp2_with (at_builtin; refine wpList_append_seg (xs := (ss.map (im m)).take j) (g := ⟨g.k, X, Y, g.u, g.v, g.w⟩) rfl _ _ rfl H5L.out rfl rfl HJ5.out (by omega) ?_)
            intro v6 w6 hown hb
            rw [← HW.out] at hown
            have HO6 := hid hown
            have HB6 := hid ((HBJ.out.trans (HX6.out.mono HRL.out)).trans hb)
            clear hown hb s0 s1 s2 s3 s4 s5 sf HJ5
            go_wp2_with fail
            go_roundw
            case rel => exact ⟨j + 1, by omega, by go_num, HE1, HO6, HB6⟩
            case measure => simp [intOf]; omega
          case pos =>
            have hb3 : (g.k == 3) = true := by simp [h3]
            replace HR := hid (HR.out.trans (if_pos h3))
            clear h3
            obtain ⟨q0, q1, q2, q3, q4, q5, qf⟩ := (HVJ.out.next HX6.out).read6
            go_wp2_with fail
            clear s0 s1 s2 s3 s4 s5 sf q0 q1 q2 q3 q4 q5 qf
            (with_reducible refine (HQ _).out.mono ?_); rintro e w7 ⟨rfl, hb⟩
            have HLT := hid (show wr.heap.size < w7.heap.size from Nat.lt_of_lt_of_le HG6.out.lt hb.size)
            have HVA := hid (Var.new w7 (pc X' Y') 36 _ rfl)
            replace HG6 := hid ((HG6.out.next hb).alloc (.cells (pc X' Y') 36))
            replace HX6 := hid ((below_next HX6.out hb).alloc (below_next HX6.out hb).size (.cells (pc X' Y') 36))
            clear hb
            go_upto_region 19 with fail
            generalize w7.alloc _ = w8 at HVA HG6 HX6 ⊢
            by_cases hr : r' = 0
            case neg =>
              have hne : (r' != 0) = true := by simp [hr]
              replace HR := hid (HR.out.trans (if_pos hr))
              rw [HR.out] at HE1
              have HEN := hid (show mapErr m ss ≠ 0 by rw [HE1.out, if_neg hr]; exact hr)
              have HEE := hid (show mapErr m ss = r' by rw [HE1.out, if_neg hr])
              have HBX := hid (HBW.out.trans (HX6.out.mono (Nat.le_trans (Nat.le_succ _) HRL.out)))
              clear hr
              go_wp2_with fail
              go_ret2
              exact ⟨.inl ⟨HEN.out, by rw [HEE.out]; rfl⟩, HBX.out⟩
            case pos =>
              subst hr
              replace HR := hid (HR.out.trans (if_neg (fun k => k rfl)))
              obtain ⟨s0, s1, s2, s3, s4, s5, sf⟩ := HG6.out.read6
              obtain ⟨i0, i1, if_⟩ := HVA.out.read2
              have hlt' := HLT.out
              go_upto_region 21 with fail
              rename_i Kn21 hK21
              apply share
              case h =>
                intro key
                go_region_with fail
                all_goals exact key
              refine hK21 _ _ ?_
              have HG9 := hid (show Var ((w8.setCell ⟨wr.heap.size, 3, none⟩ (.int .i64 X')).setCell ⟨wr.heap.size, 4, none⟩ (.int .i64 Y')).drew wr.heap.size (cel ⟨g.k, X, Y, X', Y', g.w⟩) 32 from ((HG6.out.set (i := 3) (.int .i64 X')).set (i := 4) (.int .i64 Y')).drew)
              have HX9 := hid (((HX6.out.setCell (p := ⟨wr.heap.size, 3, none⟩) (Nat.le_refl _) (.int .i64 X')).setCell (p := ⟨wr.heap.size, 4, none⟩) (Nat.le_refl _) (.int .i64 Y')).drew)
              clear s0 s1 s2 s3 s4 s5 sf i0 i1 if_ hlt' HG6 HX6 HVA HLT hK21
              generalize ((w8.setCell _ _).setCell _ _).drew = W9 at HG9 HX9 ⊢
              obtain ⟨s0, s1, s2, s3, s4, s5, sf⟩ := HG9.out.read6
              rw [HR.out] at HE1
              rw [show im m g = ⟨g.k, X, Y, X', Y', g.w⟩ from congrArg Prod.fst HR.out] at HW
              replace HE1 := hid (HE1.out.trans (if_pos rfl))
              have HJ5 := hid (own_next HJ.out HX9.out)
              have H5L := hid (Nat.le_trans HRL.out HX9.out.size)
              go_wp2_with (at_builtin; refine wpList_append_seg (xs := (ss.map (im m)).take j) (g := ⟨g.k, X, Y, X', Y', g.w⟩) rfl _ _ rfl H5L.out rfl rfl HJ5.out (by omega) ?_)
              intro v6 w6 hown hb
              rw [← HW.out] at hown
              have HO6 := hid hown
              have HB6 := hid ((HBJ.out.trans (HX9.out.mono HRL.out)).trans hb)
              clear hown hb s0 s1 s2 s3 s4 s5 sf HJ5
              go_wp2_with fail
              go_roundw
              case rel => exact ⟨j + 1, by omega, by go_num, HE1, HO6, HB6⟩
              case measure => simp [intOf]; omega
    · have hjl : j = ss.length := by omega
      subst hjl
      rw [List.take_of_length_le (by simp)] at HJ
      have HE2 := hid (show mapErr m ss = 0 by rw [HE.out, List.drop_length]; rfl)
      go_wp2_with fail
      go_ret2
      exact ⟨.inr ⟨HE2.out, _, rfl, HJ.out⟩, HBW.out⟩

theorem rmap_any (A : Option Addr) (ss : List Sg) (n c : Nat) (m : Mat) (w : World) (hn : n = ss.length) (hs : Segs w A ss) :
    Calls Tryd.prog 24 #[.slice A n c, mat m] w fun e w' => (∃ A' n' c', e = .returned (.tuple #[.slice A' n' c', .int .i64 (mE m ss)]) ∧ n' = (mS m ss).length ∧ Segs w' A' (mS m ss)) ∧ Below w.heap.size w w' := by
  have none_ : ∀ r, mE m ss = r → r ≠ 0 → ∀ (e : Ending) (w' : World), e = Ending.returned (.tuple #[.slice none 0 0, .int .i64 r]) → ∃ A' n' c', e = Ending.returned (.tuple #[.slice A' n' c', .int .i64 (mE m ss)]) ∧ n' = (mS m ss).length ∧ Segs w' A' (mS m ss) := fun r hr h0 e w' he => by
    have e0 : mS m ss = [] := by unfold mS; rw [if_neg (by rw [hr]; exact h0)]
    rw [e0, hr]
    exact ⟨none, 0, 0, he, rfl, Segs.nil _ _⟩
  by_cases h : chk ss = 0
  · have e1 : ¬ (chk ss ≠ 0) := fun k => k h
    by_cases hm : errMat m = 0
    · have e2 : ¬ (errMat m ≠ 0) := fun k => k hm
      have eE : mE m ss = mapErr m ss := by unfold mE; rw [if_neg e1, if_neg e2]
      refine (rmap_good A ss n c m w hn hs h hm).mono fun e w' ⟨hr, hb⟩ => ⟨?_, hb⟩
      rcases hr with ⟨h0, he⟩ | ⟨h0, v, he, hown⟩
      · exact none_ _ eE h0 e w' he
      · obtain ⟨A', c', rfl, hl, hs'⟩ := own_segs hown
        rw [eE, h0]
        have eS : mS m ss = ss.map (im m) := by unfold mS; rw [if_pos (by rw [eE]; exact h0)]
        rw [eS]
        exact ⟨A', n, c', he, hl, hs'⟩
    · have eE : mE m ss = errMat m := by unfold mE; rw [if_neg e1, if_pos hm]
      exact (rmap_mat A ss n c m w hn hs h hm).mono fun e w' ⟨he, hb⟩ => ⟨none_ _ eE hm e w' he, hb⟩
  · have eE : mE m ss = chk ss := by unfold mE; rw [if_pos h]
    exact (rmap_bad A ss n c m w hn (fun _ => hs) h).mono fun e w' ⟨he, hb⟩ => ⟨none_ _ eE h e w' he, hb⟩

end Go.Proofs.YtbdpjdhnmllkiaaDoor
