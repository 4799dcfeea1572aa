/- What Map of package path returns. -/
import Derived.Test.YtcdedefhofkbhaaMapS
import Derived.Test.YtcdedefhofkbhaaApd
import Derived.Test.YtcdedefhofkbhaaChk
namespace Go.Proofs.Ytcdedefhofkbhaa
open Go Go.RowKit
set_option linter.unusedVariables false
set_option linter.unusedSimpArgs false

theorem wpList_append_seg {ops : Array Oper} {rest : List Oper} {o : Oper} {a : Act} {Q : Exit → Act → World → Prop} {w : World} {B n : Nat} {v : Value} {xs : List Sg} {g : Sg} (hgd : o.guard = none) (s x : Operand)
    (ho : o.op = .call { callee := .builtin .append, args := #[s, x], argTypes := #[35, 35] }) (hB : B ≤ w.heap.size) (hs : a.eval s = v) (hx : a.eval x = .slice (some ⟨w.heap.size, 0, none⟩) 1 1)
    (hown : w.ownsRow B 25 6 v n (flat xs)) (hl : n ≤ 100000)
    (k : ∀ v' w', w'.ownsRow B 25 6 v' (n + 1) (flat (xs ++ [g])) → Below B w w' → wpList Try.prog ops Q rest (a.put o.dst v') w') : wpList Try.prog ops Q (o :: rest) a (w.alloc (.cells (cel g) 25)) := by
  obtain ⟨i0, hi, hz0, hz1, hz2⟩ := info_parts F2.infoSeg
  have hown1 := hown.alloc (.cells (cel g) 25)
  exact wpList_append_own (w.alloc (.cells (cel g) 25)) hgd s x 35 ho B 25 i0 _ 6 48 Try.underlying35 hi hz0 hz1 hz2 rfl (by decide) v n (flat xs) hs hown1
    ⟨w.heap.size, 0, none⟩ 1 1 (cel g).toList hx rfl (fun j u hu => by
      have hV := (Var.new w (cel g) 25 _ rfl).cell j
      rw [show (⟨w.heap.size, 0, none⟩ : Addr).add j = ⟨w.heap.size, j, none⟩ by unfold Addr.add; split <;> simp_all, hV]
      simpa using hu) (fun u hu => by
      simp only [List.mem_cons, List.not_mem_nil, or_false] at hu
      rcases hu with rfl | rfl | rfl | rfl | rfl | rfl <;> rfl) (by unfold maxLen; omega) (by omega) (by simp; omega)
    (fun v' w' h2 h3 _ => k v' w' (by rw [flat_append]; simpa [flat] using h2) (((Below.refl B w).alloc hB _).grown h3 (by simp; omega) (fun k hk => (hown1.lt k hk).1)))

/-- The images, as many as there are until the first error; that error. -/
noncomputable def im (m : Mat) (s : Sg) : Sg := (mapR m s).1
noncomputable def mapErr (m : Mat) : List Sg → Int
  | [] => 0
  | s :: r => if (mapR m s).2 = 0 then mapErr m r else (mapR m s).2
def errMat (m : Mat) : Int := Af.errM m.a m.b m.c m.d m.e m.f
noncomputable def mE (m : Mat) (ss : List Sg) : Int := if chk ss ≠ 0 then chk ss else if errMat m ≠ 0 then errMat m else mapErr m ss
noncomputable def mS (m : Mat) (ss : List Sg) : List Sg := if mE m ss = 0 then ss.map (im m) else []
theorem mapErr_at {m : Mat} {ss : List Sg} {j : Nat} (h : j < ss.length) : mapErr m (ss.drop j) = if (mapR m ss[j]).2 = 0 then mapErr m (ss.drop (j + 1)) else (mapR m ss[j]).2 := by
  rw [List.drop_eq_getElem_cons h, mapErr]
theorem map_take {m : Mat} {ss : List Sg} {j : Nat} (h : j < ss.length) : (ss.map (im m)).take (j + 1) = (ss.map (im m)).take j ++ [im m ss[j]] := by
  rw [List.take_succ_eq_append_getElem (by simpa using h), List.getElem_map]
theorem check_mat (m : Mat) (w : World) : Calls Try.prog 35 #[mat m] w fun r w' => r = .returned (.int .i64 (errMat m)) ∧ Below w.heap.size w w' := Af.chk_any _ _ _ _ _ _ w

theorem map_bad (A : Option Addr) (ss : List Sg) (n c : Nat) (m : Mat) (w : World) (hn : n = ss.length) (hs : n ≤ 1000 → Segs w A ss) (h : chk ss ≠ 0) :
    Calls Try.prog 19 #[.slice A n c, mat m] w fun e w' => e = .returned (.tuple #[.slice none 0 0, .int .i64 (chk ss)]) ∧ Below w.heap.size w w' := by
  have HC := fun w1 (h : n ≤ 1000 → Segs w1 A ss) => hid (check_any A ss n c w1 hn h)
  have hne : (chk ss != 0) = true := by simp [h]
  have HS := hid hs
  clear hs hn h
  generalize chk ss = r at HC hne
  have HB := hid (below_alloc (Below.refl _ w) (.cells (mcel m) 48))
  go_enter Try.func19, Try.ntmps19
  go_wp2_with fail
  (with_reducible refine (HC _ (fun k => (HS.out k).next HB.out)).out.mono ?_); rintro e w1 ⟨rfl, hb⟩
  replace HB := hid (below_next HB.out hb)
  clear hb
  go_wp2_with fail
  go_ret2
  exact ⟨rfl, HB.out⟩
theorem map_mat (A : Option Addr) (ss : List Sg) (n c : Nat) (m : Mat) (w : World) (hn : n = ss.length) (hs : Segs w A ss) (h : chk ss = 0) (hm : errMat m ≠ 0) :
    Calls Try.prog 19 #[.slice A n c, mat m] w fun e w' => e = .returned (.tuple #[.slice none 0 0, .int .i64 (errMat m)]) ∧ Below w.heap.size w w' := by
  have HC := fun w1 (h : Segs w1 A ss) => hid (check_any A ss n c w1 hn fun _ => h)
  have HM := fun w1 => hid (check_mat m w1)
  have hne : (errMat m != 0) = true := by simp [hm]
  rw [h] at HC
  have HS := hid hs
  clear hs hn h hm
  generalize errMat m = r at HM hne
  have HV := hid (Var.new w (mcel m) 48 _ rfl)
  have HB := hid (below_alloc (Below.refl _ w) (.cells (mcel m) 48))
  go_enter Try.func19, Try.ntmps19
  go_wp2_with fail
  (with_reducible refine (HC _ (HS.out.next HB.out)).out.mono ?_); rintro e w1 ⟨rfl, hb⟩
  replace HB := hid (below_next HB.out hb)
  replace HV := hid (HV.out.next hb)
  clear hb
  obtain ⟨q0, q1, q2, q3, q4, q5, qf⟩ := HV.out.read6
  go_wp2_with fail
  clear q0 q1 q2 q3 q4 q5 qf
  (with_reducible refine (HM _).out.mono ?_); rintro e w2 ⟨rfl, hb⟩
  replace HB := hid (below_next HB.out hb)
  clear hb
  go_wp2_with fail
  go_ret2
  exact ⟨rfl, HB.out⟩

set_option maxHeartbeats 3200000 in
set_option maxRecDepth 100000 in
theorem map_good (A : Option Addr) (ss : List Sg) (n c : Nat) (m : Mat) (w : World) (hn : n = ss.length) (hs : Segs w A ss) (h : chk ss = 0) (hm : errMat m = 0) :
    Calls Try.prog 19 #[.slice A n c, mat m] w fun e w' => (mapErr m ss ≠ 0 ∧ e = .returned (.tuple #[.slice none 0 0, .int .i64 (mapErr m ss)]) ∨ mapErr m ss = 0 ∧ ∃ v, e = .returned (.tuple #[v, .int .i64 0]) ∧ w'.ownsRow (w.heap.size + 1) 25 6 v n (flat (ss.map (im m)))) ∧ Below w.heap.size w w' := by
  obtain ⟨i0, hi, hz0, hz1, hz2⟩ := info_parts F2.infoSeg
  have hle := chk_le h
  have HC := fun w1 (h : Segs w1 A ss) => hid (check_any A ss n c w1 hn fun _ => h)
  have HM := fun w1 => hid (check_mat m w1)
  rw [h] at HC
  rw [hm] at HM
  have HS := hid hs
  subst hn
  clear hs h hm
  have HV := hid (Var.new w (mcel m) 48 _ rfl)
  have HB := hid (below_alloc (Below.refl _ w) (.cells (mcel m) 48))
  go_enter Try.func19, Try.ntmps19
  go_wp2_with fail
  (with_reducible refine (HC _ (HS.out.next HB.out)).out.mono ?_); rintro e w1 ⟨rfl, hb⟩
  replace HB := hid (below_next HB.out hb)
  replace HV := hid (HV.out.next hb)
  clear hb
  obtain ⟨q0, q1, q2, q3, q4, q5, qf⟩ := HV.out.read6
  go_wp2_with fail
  clear q0 q1 q2 q3 q4 q5 qf
  (with_reducible refine (HM _).out.mono ?_); rintro e w2 ⟨rfl, hb⟩
  replace HB := hid (below_next HB.out hb)
  replace HV := hid (HV.out.next hb)
  clear hb HC HM
  have HB1 := hid (show Below (w.heap.size + 1) w2 w2 from Below.refl _ w2)
  have HBL := hid (show w.heap.size + 1 ≤ w2.heap.size from HV.out.lt)
  go_wp2_with (at_make; refine wpList_make_own _ rfl _ _ 35 rfl (w.heap.size + 1) 25 i0 _ 6 Try.underlying35 hi hz0 hz1 _ _ _ ss.length rfl rfl rfl (by rw [hz2]; omega) (by unfold maxLen; omega) HBL.out ?_)
  intro w3 hown hgrow
  have HB3 := hid (show Below (w.heap.size + 1) w2 w3 from HB1.out.grown hgrow HBL.out (fun k hk => by cases hk))
  have HO := hid hown
  clear hown hgrow HB1
  go_wp2_with fail
  go_loopw [8, 28] (fun s8 s28 wr => ∃ j : Nat, j ≤ ss.length ∧ s28 = .int .i64 j ∧ Hid (mapErr m ss = mapErr m (ss.drop j)) ∧ Hid (wr.ownsRow (w.heap.size + 1) 25 6 s8 j (flat ((ss.map (im m)).take j))) ∧ Hid (Below (w.heap.size + 1) w2 wr)) (fun _ s28 _ => ss.length - (intOf s28).toNat)
  case atStart => exact ⟨0, Nat.zero_le _, rfl, hid rfl, HO, HB3⟩
  case round =>
    obtain ⟨j, hj, rfl, HE, HJ, HBJ⟩ := hrel
    have HBW := hid (show Below w.heap.size w wr from HB.out.trans (HBJ.out.mono (Nat.le_succ _)))
    by_cases hlt : j < ss.length
    · obtain ⟨a, rfl, hal, hsa⟩ := (HS.out.next HBW.out).at_ hlt
      have HE1 := hid (HE.out.trans (mapErr_at hlt))
      have HW := hid (map_take (m := m) hlt)
      have HVJ := hid (HV.out.below HBJ.out (Nat.lt_succ_self _))
      generalize ss[j] = g at hsa HE1 HW
      obtain ⟨c0, c1, c2, c3, c4, c5⟩ := hsa
      have HVG := hid (Var.new wr (cel g) 25 _ rfl)
      have HVM := hid (HVJ.out.alloc (.cells (cel g) 25))
      have HBX := hid (HBJ.out.alloc (Nat.le_trans HBL.out HBJ.out.size) (.cells (cel g) 25))
      have HJX := hid (HJ.out.alloc (.cells (cel g) 25))
      go_upto_region 11 with fail
      clear c0 c1 c2 c3 c4 c5 HE HJ HBJ HBW HVJ
      generalize wr.alloc _ = wx at HVG HVM HBX HJX ⊢
      obtain ⟨s0, s1, s2, s3, s4, s5, sf⟩ := HVG.out.read6
      obtain ⟨q0, q1, q2, q3, q4, q5, qf⟩ := HVM.out.read6
      have HXL := hid (show w.heap.size + 1 ≤ wx.heap.size from HVM.out.lt)
      go_wp2_with fail
      clear s0 s1 s2 s3 s4 s5 sf q0 q1 q2 q3 q4 q5 qf
      (with_reducible refine (mapSeg_any g m _).mono ?_); rintro e w4 ⟨rfl, hb⟩
      have HB4 := hid (HBX.out.trans (hb.mono HXL.out))
      have HJ4 := hid (own_next HJX.out hb)
      have H4L := hid (Nat.le_trans HXL.out hb.size)
      clear hb HBX HJX HVG HVM HXL
      rw [show (mapR m g).1 = im m g from rfl]
      generalize im m g = q at HW ⊢
      generalize (mapR m g).2 = r at HE1 ⊢
      by_cases he : r = 0
      · rw [if_pos he] at HE1
        subst he
        have HV5 := hid (Var.new w4 (cel q) 25 _ rfl)
        have HB5 := hid (HB4.out.alloc H4L.out (.cells (cel q) 25))
        have HJ5 := hid (HJ4.out.alloc (.cells (cel q) 25))
        have H5L := hid (show w.heap.size + 1 ≤ (w4.alloc (.cells (cel q) 25)).heap.size by have := H4L.out; simp; omega)
        go_upto_region 12 with fail
        generalize w4.alloc _ = w5 at HV5 HB5 HJ5 H5L ⊢
        obtain ⟨s0, s1, s2, s3, s4, s5, sf⟩ := HV5.out.read6
        go_wp2_with (at_builtin; refine wpList_append_seg (xs := (ss.map (im m)).take j) (g := q) rfl _ _ rfl H5L.out rfl rfl HJ5.out (by omega) ?_)
        intro v6 w6 hown hb
        rw [← HW.out] at hown
        have HO6 := hid hown
        have HB6 := hid (HB5.out.trans hb)
        clear hown hb s0 s1 s2 s3 s4 s5 sf HJ5 HB5 HJ4 HB4
        go_wp2_with fail
        go_roundw
        case rel => exact ⟨j + 1, by omega, by go_num, HE1, HO6, HB6⟩
        case measure => simp [intOf]; omega
      · rw [if_neg he] at HE1
        have hne : (r != 0) = true := by simp [he]
        have HEN := hid he
        clear he
        have HB5 := hid (below_alloc (HB.out.trans (HB4.out.mono (Nat.le_succ _))) (.cells (cel q) 25))
        go_wp2_with fail
        go_ret2
        exact ⟨.inl ⟨by rw [HE1.out]; exact HEN.out, by rw [HE1.out]; rfl⟩, HB5.out⟩
    · have hjl : j = ss.length := by omega
      subst hjl
      rw [List.take_of_length_le (by simp)] at HJ
      have HE2 := hid (show mapErr m ss = 0 by rw [HE.out, List.drop_length]; rfl)
      go_wp2_with fail
      go_ret2
      exact ⟨.inr ⟨HE2.out, _, rfl, HJ.out⟩, HBW.out⟩

theorem map_any (A : Option Addr) (ss : List Sg) (n c : Nat) (m : Mat) (w : World) (hn : n = ss.length) (hs : Segs w A ss) :
    Calls Try.prog 19 #[.slice A n c, mat m] w fun e w' => (∃ A' n' c', e = .returned (.tuple #[.slice A' n' c', .int .i64 (mE m ss)]) ∧ n' = (mS m ss).length ∧ Segs w' A' (mS m ss)) ∧ Below w.heap.size w w' := by
  have none_ : ∀ r, mE m ss = r → r ≠ 0 → ∀ (e : Ending) (w' : World), e = Ending.returned (.tuple #[.slice none 0 0, .int .i64 r]) → ∃ A' n' c', e = Ending.returned (.tuple #[.slice A' n' c', .int .i64 (mE m ss)]) ∧ n' = (mS m ss).length ∧ Segs w' A' (mS m ss) := fun r hr h0 e w' he => by
    have e0 : mS m ss = [] := by unfold mS; rw [if_neg (by rw [hr]; exact h0)]
    rw [e0, hr]
    exact ⟨none, 0, 0, he, rfl, Segs.nil _ _⟩
  by_cases h : chk ss = 0
  · have e1 : ¬ (chk ss ≠ 0) := fun k => k h
    by_cases hm : errMat m = 0
    · have e2 : ¬ (errMat m ≠ 0) := fun k => k hm
      have eE : mE m ss = mapErr m ss := by unfold mE; rw [if_neg e1, if_neg e2]
      refine (map_good A ss n c m w hn hs h hm).mono fun e w' ⟨hr, hb⟩ => ⟨?_, hb⟩
      rcases hr with ⟨h0, he⟩ | ⟨h0, v, he, hown⟩
      · exact none_ _ eE h0 e w' he
      · obtain ⟨A', c', rfl, hl, hs'⟩ := own_segs hown
        rw [eE, h0]
        have eS : mS m ss = ss.map (im m) := by unfold mS; rw [if_pos (by rw [eE]; exact h0)]
        rw [eS]
        exact ⟨A', n, c', he, hl, hs'⟩
    · have eE : mE m ss = errMat m := by unfold mE; rw [if_neg e1, if_pos hm]
      exact (map_mat A ss n c m w hn hs h hm).mono fun e w' ⟨he, hb⟩ => ⟨none_ _ eE hm e w' he, hb⟩
  · have eE : mE m ss = chk ss := by unfold mE; rw [if_pos h]
    exact (map_bad A ss n c m w hn (fun _ => hs) h).mono fun e w' ⟨he, hb⟩ => ⟨none_ _ eE h e w' he, hb⟩

end Go.Proofs.Ytcdedefhofkbhaa
