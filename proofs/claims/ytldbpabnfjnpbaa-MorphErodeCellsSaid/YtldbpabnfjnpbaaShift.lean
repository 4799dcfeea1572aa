/- Shift of package region, and the reference's Shifted. -/
import Derived.Test.YtldbpabnfjnpbaaRgn
import Derived.Test.YtldbpabnfjnpbaaRHas
namespace Go.Proofs.Ytldbpabnfjnpbaa
open Go Go.RowKit
set_option linter.unusedVariables false
set_option linter.unusedSimpArgs false

def mvRn (dx dy : Int) (r : Rn) : Rn := ⟨r.y + dy, max (r.a + dx) (-8192), min (r.b + dx) 8192⟩
def mvOk (dx dy : Int) (r : Rn) : Bool := decide ((-8192 ≤ r.y + dy ∧ r.y + dy ≤ 8191) ∧ max (r.a + dx) (-8192) < min (r.b + dx) 8192)
/-- The runs that are shifted, without those that leave the permitted cells. -/
def shiftL (dx dy : Int) (ss : List Rn) : List Rn := (ss.filter (mvOk dx dy)).map (mvRn dx dy)
theorem shiftL_snoc (dx dy : Int) (ss : List Rn) (r : Rn) : shiftL dx dy (ss ++ [r]) = shiftL dx dy ss ++ (if mvOk dx dy r = true then [mvRn dx dy r] else []) := by
  unfold shiftL
  rw [List.filter_append, List.map_append]
  by_cases h : mvOk dx dy r = true
  · rw [if_pos h]; simp [h]
  · rw [if_neg h]; simp [h]
theorem shiftL_len (dx dy : Int) (ss : List Rn) : (shiftL dx dy ss).length ≤ ss.length := by unfold shiftL; rw [List.length_map]; exact List.length_filter_le _ _
def SR (dx dy : Int) (ss : List Rn) (n : Nat) (w : World) (s9 s27 : Value) (wr : World) : Prop := ∃ (k : Nat) (v : Value), s9 = v ∧ k ≤ n ∧ s27 = .int .i64 k ∧ Hid (OwnR wr w.heap.size v (shiftL dx dy (ss.take k)) ∧ Below w.heap.size w wr)
theorem shift_t (d : Int) (w : World) (h : -16384 ≤ d ∧ d ≤ 16384) : Calls Try.prog 98 #[.int .i64 d] w fun e w' => e = .returned (.bool true) ∧ w = w' := by
  obtain ⟨h1, h2⟩ := h
  go_enter Try.func98, Try.ntmps98
  go_wp2
  go_ret
  exact ⟨rfl, rfl⟩
theorem shift_f (d : Int) (w : World) (h : ¬ (-16384 ≤ d ∧ d ≤ 16384)) : Calls Try.prog 98 #[.int .i64 d] w fun e w' => e = .returned (.bool false) ∧ w = w' := by
  by_cases h1 : -16384 ≤ d
  · have h2 : ¬ d ≤ 16384 := by omega
    clear h
    go_enter Try.func98, Try.ntmps98
    go_wp2
    go_ret
    exact ⟨rfl, rfl⟩
  · clear h
    go_enter Try.func98, Try.ntmps98
    go_wp2
    go_ret
    exact ⟨rfl, rfl⟩
def shE (ss : List Rn) (dx dy : Int) : Int := if chk ss = 0 then (if (-16384 ≤ dx ∧ dx ≤ 16384) ∧ (-16384 ≤ dy ∧ dy ≤ 16384) then 0 else 3) else chk ss

set_option maxHeartbeats 4000000 in
set_option maxRecDepth 100000 in
theorem shift_bad (A : Option Addr) (ss : List Rn) (n c : Nat) (dx dy : Int) (w : World) (hn : n = ss.length) (hl : n ≤ maxLen) (hs : Runs w A ss) (he : shE ss dx dy ≠ 0) :
    Calls Try.prog 78 #[.slice A n c, .int .i64 dx, .int .i64 dy] w (GivesR (shE ss dx dy) [] w) := by
  have HS := hid hs
  have HN := hid hn
  clear hs hn
  by_cases hc : chk ss = 0
  · have hno : ¬ ((-16384 ≤ dx ∧ dx ≤ 16384) ∧ (-16384 ≤ dy ∧ dy ≤ 16384)) := fun k => he (by unfold shE; rw [if_pos hc, if_pos k])
    have HE := hid (show shE ss dx dy = 3 by unfold shE; rw [if_pos hc, if_neg hno])
    have HC := hid hc
    rw [HE.out]
    clear he hc
    by_cases h1 : -16384 ≤ dx ∧ dx ≤ 16384
    · have h2 : ¬ (-16384 ≤ dy ∧ dy ≤ 16384) := fun k => hno ⟨h1, k⟩
      clear hno
      go_enter Try.func78, Try.ntmps78
      go_wp2_with fail
      (with_reducible refine (check_any A ss n c _ HN.out hl HS.out).mono ?_); rintro e w1 ⟨rfl, hb⟩
      rw [HC.out]
      have HB := hid hb
      clear hb
      go_wp2_with (go_at_call 98; (first | (with_reducible refine (shift_t _ _ (by assumption)).mono ?_) | (with_reducible refine (shift_f _ _ (by assumption)).mono ?_)); rintro e w' ⟨rfl, rfl⟩)
      go_ret2
      exact ⟨_, rfl, OwnR.nil _ _, HB.out⟩
    · clear hno
      go_enter Try.func78, Try.ntmps78
      go_wp2_with fail
      (with_reducible refine (check_any A ss n c _ HN.out hl HS.out).mono ?_); rintro e w1 ⟨rfl, hb⟩
      rw [HC.out]
      have HB := hid hb
      clear hb
      go_wp2_with (go_at_call 98; (with_reducible refine (shift_f _ _ (by assumption)).mono ?_); rintro e w' ⟨rfl, rfl⟩)
      go_ret2
      exact ⟨_, rfl, OwnR.nil _ _, HB.out⟩
  · have HE := hid (show shE ss dx dy = chk ss from if_neg hc)
    have hc' : (chk ss != 0) = true := by simpa using hc
    rw [HE.out]
    clear he hc
    go_enter Try.func78, Try.ntmps78
    go_wp2_with fail
    (with_reducible refine (check_any A ss n c _ HN.out hl HS.out).mono ?_); rintro e w1 ⟨rfl, hb⟩
    have HB := hid hb
    clear hb
    go_wp2_with fail
    go_ret2
    exact ⟨_, rfl, OwnR.nil _ _, HB.out⟩

set_option maxHeartbeats 4000000 in
set_option maxRecDepth 100000 in
theorem shift_good (A : Option Addr) (ss : List Rn) (n c : Nat) (dx dy : Int) (w : World) (hn : n = ss.length) (hs : Runs w A ss) (hc : chk ss = 0) (h1 : -16384 ≤ dx ∧ dx ≤ 16384) (h2 : -16384 ≤ dy ∧ dy ≤ 16384) :
    Calls Try.prog 78 #[.slice A n c, .int .i64 dx, .int .i64 dy] w (GivesR 0 (shiftL dx dy ss) w) := by
  have HS := hid hs
  have HN := hid hn
  have HC := hid hc
  have hnb : n ≤ 1000000000 := by rw [hn]; exact chk_len hc
  have hl : n ≤ maxLen := by unfold maxLen; omega
  clear hs hn hc
  go_enter Try.func78, Try.ntmps78
  go_wp2_with fail
  (with_reducible refine (check_any A ss n c _ HN.out hl HS.out).mono ?_); rintro e w1 ⟨rfl, hb⟩
  rw [HC.out]
  have HB := hid hb
  clear hb
  go_wp2_with (go_at_call 98; (with_reducible refine (shift_t _ _ (by assumption)).mono ?_); rintro e w' ⟨rfl, rfl⟩)
  obtain ⟨h1a, h1b⟩ := h1
  obtain ⟨h2a, h2b⟩ := h2
  go_loopw [9, 27] (fun s9 s27 wr => SR dx dy ss n w s9 s27 wr) (fun _ s27 _ => n - (intOf s27).toNat)
  case atStart => exact ⟨0, _, rfl, Nat.zero_le _, rfl, hid ⟨OwnR.nil _ _, HB.out⟩⟩
  case round =>
    obtain ⟨k, v, hv, hkn, rfl, HL⟩ := hrel
    have hv' := hv.symm
    clear hv
    subst hv'
    by_cases hlt : k < n
    · have hlz : k < ss.length := by rw [← HN.out]; exact hlt
      obtain ⟨a, rfl, hal, hsa⟩ := (HS.out.next HL.out.2).at_ hlz
      have HT := hid (show shiftL dx dy (ss.take (k + 1)) = shiftL dx dy (ss.take k) ++ (if mvOk dx dy ss[k] = true then [mvRn dx dy ss[k]] else []) by rw [List.take_succ_eq_append_getElem hlz, shiftL_snoc])
      have hrin := ((chk_all HC.out).1 _ (List.getElem_mem hlz)).1
      have hlen : (shiftL dx dy (ss.take k)).length ≤ 5000000000 := by have := shiftL_len dx dy (ss.take k); rw [List.length_take] at this; have := HN.out; omega
      generalize ss[k] = r at hsa HT hrin
      obtain ⟨c0, c1, c2⟩ := hsa
      unfold RnIn at hrin
      obtain ⟨⟨y0, y1⟩, ⟨a0', a1'⟩, ⟨b0', b1'⟩⟩ := hrin
      go_upto_region 10 with fail
      obtain ⟨W2, hW2⟩ : ∃ W2, W2 = wr.alloc (.cells (cel r) 37) := ⟨_, rfl⟩
      have HV := hid (show Var W2 wr.heap.size (cel r) 37 by rw [hW2]; exact Var.new _ _ _ _ rfl)
      have hb2 : Below wr.heap.size wr W2 := by rw [hW2]; exact (Below.refl _ _).alloc (Nat.le_refl _) _
      rw [← hW2]
      clear hW2 c0 c1 c2
      rename_i Kn hKn
      refine wp_region_lit ?_
      refine sq_start (n := 62) rfl fun a0 hs0 => ?_
      have ha0 := (((((((((((((((((((((((((((((hs0.pin 0 (v := .slice (some a) n c) rfl).pin 1 (v := .int .i64 dx) rfl).pin 2 (v := .int .i64 dy) rfl).pin 3 (v := undef) rfl).pin 4 (v := undef) rfl).pin 5 (v := undef) rfl).pin 6 (v := .slice none 0 0) rfl).pin 7 (v := .int .i64 0) rfl).pin 8 (v := .int .i64 0) rfl).pin 9 (v := v) rfl).pin 10 (v := undef) rfl).pin 12 (v := .slice (some a) n c) rfl).pin 13 (v := .int .i64 0) rfl).pin 14 (v := .int .i64 0) rfl).pin 15 (v := .bool false) rfl).pin 16 (v := undef) rfl).pin 17 (v := .int .i64 dx) rfl).pin 18 (v := .bool true) rfl).pin 19 (v := .bool false) rfl).pin 20 (v := .bool false) rfl).pin 21 (v := .int .i64 dy) rfl).pin 22 (v := .bool true) rfl).pin 23 (v := .bool false) rfl).pin 24 (v := .bool false) rfl).pin 25 (v := .slice (some a) n c) rfl).pin 26 (v := .int .i64 n) rfl).pin 27 (v := .int .i64 (k : Int)) rfl).pin 61 (v := undef) rfl).pin 11 (v := .pointer (some (⟨wr.heap.size, 0, none⟩))) rfl)
      clear hs0
      generalize (fun i => Array.getD _ i undef) = g0 at ha0
      refine sq_val (v := .pointer (some (⟨wr.heap.size, 0, none⟩))) ha0 rfl (run_fld0 (a := ⟨wr.heap.size, 0, none⟩) rfl) fun a1 ha1 => ?_
      refine sq_val (v := .int .i64 r.y) ha1 rfl (run_loadInt rfl (HV.out.cell 0)) fun a2 ha2 => ?_
      refine sq_val (v := .int .i64 dy) ha2 rfl (rfl) fun a3 ha3 => ?_
      refine sq_val (v := .int .i64 (r.y + dy)) ha3 rfl (run_add rfl rfl (by unfold Rg; omega)) fun a4 ha4 => ?_
      refine sq_val (v := .pointer (some (⟨wr.heap.size, 1, none⟩))) ha4 rfl (run_fld1 (a := ⟨wr.heap.size, 0, none⟩) rfl) fun a5 ha5 => ?_
      refine sq_val (v := .int .i64 r.a) ha5 rfl (run_loadInt rfl (HV.out.cell 1)) fun a6 ha6 => ?_
      refine sq_val (v := .int .i64 dx) ha6 rfl (rfl) fun a7 ha7 => ?_
      refine sq_val (v := .int .i64 (r.a + dx)) ha7 rfl (run_add rfl rfl (by unfold Rg; omega)) fun a8 ha8 => ?_
      refine sq_val (v := .int .i64 (max (r.a + dx) (-8192))) ha8 rfl (run_max2 rfl rfl) fun a9 ha9 => ?_
      refine sq_val (v := .pointer (some (⟨wr.heap.size, 2, none⟩))) ha9 rfl (run_fld2 (a := ⟨wr.heap.size, 0, none⟩) rfl) fun a10 ha10 => ?_
      refine sq_val (v := .int .i64 r.b) ha10 rfl (run_loadInt rfl (HV.out.cell 2)) fun a11 ha11 => ?_
      refine sq_val (v := .int .i64 dx) ha11 rfl (rfl) fun a12 ha12 => ?_
      refine sq_val (v := .int .i64 (r.b + dx)) ha12 rfl (run_add rfl rfl (by unfold Rg; omega)) fun a13 ha13 => ?_
      refine sq_val (v := .int .i64 (min (r.b + dx) 8192)) ha13 rfl (run_min2 rfl rfl) fun a14 ha14 => ?_
      refine sq_val (v := rn (⟨r.y + dy, max (r.a + dx) (-8192), min (r.b + dx) 8192⟩)) ha14 rfl (run_buildRn rfl rfl rfl) fun a15 ha15 => ?_
      refine sq_skip ha15 (run_storeRn (s := ⟨r.y + dy, max (r.a + dx) (-8192), min (r.b + dx) 8192⟩) rfl rfl HV.out) fun a16 ha16 => ?_
      refine wpList_nil ?_
      refine hKn _ _ ?_
      obtain ⟨g9, hg9, k0, k1, k2, k3, k4, k5, k6, k7, k8, k9, k10, k12, k13, k14, k15, k16, k17, k18, k19, k20, k21, k22, k23, k24, k25, k26, k27, k61, k11⟩ : ∃ g9, Is a16 62 g9 ∧ g9 0 = .slice (some a) n c ∧ g9 1 = .int .i64 dx ∧ g9 2 = .int .i64 dy ∧ g9 3 = undef ∧ g9 4 = undef ∧ g9 5 = undef ∧ g9 6 = .slice none 0 0 ∧ g9 7 = .int .i64 0 ∧ g9 8 = .int .i64 0 ∧ g9 9 = v ∧ g9 10 = undef ∧ g9 12 = .slice (some a) n c ∧ g9 13 = .int .i64 0 ∧ g9 14 = .int .i64 0 ∧ g9 15 = .bool false ∧ g9 16 = undef ∧ g9 17 = .int .i64 dx ∧ g9 18 = .bool true ∧ g9 19 = .bool false ∧ g9 20 = .bool false ∧ g9 21 = .int .i64 dy ∧ g9 22 = .bool true ∧ g9 23 = .bool false ∧ g9 24 = .bool false ∧ g9 25 = .slice (some a) n c ∧ g9 26 = .int .i64 n ∧ g9 27 = .int .i64 (k : Int) ∧ g9 61 = undef ∧ g9 11 = .pointer (some (⟨wr.heap.size, 0, none⟩)) := ⟨_, ha16, rfl, rfl, rfl, rfl, rfl, rfl, rfl, rfl, rfl, rfl, rfl, rfl, rfl, rfl, rfl, rfl, rfl, rfl, rfl, rfl, rfl, rfl, rfl, rfl, rfl, rfl, rfl, rfl, rfl⟩
      have hw := hg9.whole
      rw [show ((List.range 62).map g9).toArray = #[g9 0, g9 1, g9 2, g9 3, g9 4, g9 5, g9 6, g9 7, g9 8, g9 9, g9 10, g9 11, g9 12, g9 13, g9 14, g9 15, g9 16, g9 17, g9 18, g9 19, g9 20, g9 21, g9 22, g9 23, g9 24, g9 25, g9 26, g9 27, g9 28, g9 29, g9 30, g9 31, g9 32, g9 33, g9 34, g9 35, g9 36, g9 37, g9 38, g9 39, g9 40, g9 41, g9 42, g9 43, g9 44, g9 45, g9 46, g9 47, g9 48, g9 49, g9 50, g9 51, g9 52, g9 53, g9 54, g9 55, g9 56, g9 57, g9 58, g9 59, g9 60, g9 61] from rfl] at hw
      rw [k0, k1, k2, k3, k4, k5, k6, k7, k8, k9, k10, k12, k13, k14, k15, k16, k17, k18, k19, k20, k21, k22, k23, k24, k25, k26, k27, k61, k11] at hw
      subst hw
      clear hg9 k0 k1 k2 k3 k4 k5 k6 k7 k8 k9 k10 k12 k13 k14 k15 k16 k17 k18 k19 k20 k21 k22 k23 k24 k25 k26 k27 k61 k11
      clear ha0 ha1 ha2 ha3 ha4 ha5 ha6 ha7 ha8 ha9 ha10 ha11 ha12 ha13 ha14 ha15 ha16 hKn Kn
      have HV2 := hid (show Var _ wr.heap.size (cel ⟨r.y + dy, max (r.a + dx) (-8192), min (r.b + dx) 8192⟩) 37 from ((HV.out.set (i := 0) (.int .i64 (r.y + dy))).set (i := 1) (.int .i64 (max (r.a + dx) (-8192)))).set (i := 2) (.int .i64 (min (r.b + dx) 8192)))
      have HB3 := hid (((hb2.setCell (p := ⟨wr.heap.size, 0, none⟩) (Nat.le_refl _) (.int .i64 (r.y + dy))).setCell (p := ⟨wr.heap.size, 1, none⟩) (Nat.le_refl _) (.int .i64 (max (r.a + dx) (-8192)))).setCell (p := ⟨wr.heap.size, 2, none⟩) (Nat.le_refl _) (.int .i64 (min (r.b + dx) 8192)))
      generalize World.setCell _ ⟨wr.heap.size, 2, none⟩ _ = W3 at HV2 HB3 ⊢
      have HO3 := hid (HL.out.1.next HB3.out)
      have HBW := hid (below_next HL.out.2 HB3.out)
      clear HV hb2
      obtain ⟨p0, p1, p2, pf⟩ := HV2.out.read3
      by_cases hp : -8192 ≤ r.y + dy ∧ r.y + dy ≤ 8191
      · by_cases hq : max (r.a + dx) (-8192) < min (r.b + dx) 8192
        · have HOK := hid (HT.out.trans (by rw [if_pos (show mvOk dx dy r = true from decide_eq_true ⟨hp, hq⟩)]))
          obtain ⟨v', w4, g1, g2, g3⟩ := append_rn (ty := 22) (s := mvRn dx dy r) HBW.out.size HO3.out hlen
          have H1 := hid g1
          have HL4 := hid (show OwnR w4 w.heap.size v' (shiftL dx dy (ss.take (k + 1))) ∧ Below w.heap.size w w4 from ⟨by rw [HOK.out]; exact g2, HBW.out.grown g3.g HBW.out.size (fun j hj => (HO3.out.ge j hj).1)⟩)
          clear g1 g2 g3
          have hq' : decide (max (r.a + dx) (-8192) < min (r.b + dx) 8192) = true := decide_eq_true hq
          obtain ⟨s, hs⟩ : ∃ s, s = mvRn dx dy r := ⟨_, rfl⟩
          have HV3 := hid (show Var W3 wr.heap.size (cel s) 37 by rw [hs]; exact HV2.out)
          rw [← hs] at H1
          clear hs
          go_upto_region 12 with (go_at_call 47; (with_reducible refine (perm_t _ _ (by assumption)).mono ?_); rintro e w' ⟨rfl, rfl⟩)
          rename_i Kn hKn
          refine wp_region_lit ?_
          refine sq_start (n := 62) rfl fun a0 hs0 => ?_
          have ha0 := (((((((((((((((((((((((((((((hs0.pin 0 (v := .slice (some a) n c) rfl).pin 1 (v := .int .i64 dx) rfl).pin 2 (v := .int .i64 dy) rfl).pin 3 (v := undef) rfl).pin 4 (v := undef) rfl).pin 5 (v := undef) rfl).pin 6 (v := .slice none 0 0) rfl).pin 7 (v := .int .i64 0) rfl).pin 8 (v := .int .i64 0) rfl).pin 9 (v := v) rfl).pin 10 (v := undef) rfl).pin 12 (v := .slice (some a) n c) rfl).pin 13 (v := .int .i64 0) rfl).pin 14 (v := .int .i64 0) rfl).pin 15 (v := .bool false) rfl).pin 16 (v := undef) rfl).pin 17 (v := .int .i64 dx) rfl).pin 18 (v := .bool true) rfl).pin 19 (v := .bool false) rfl).pin 20 (v := .bool false) rfl).pin 21 (v := .int .i64 dy) rfl).pin 22 (v := .bool true) rfl).pin 23 (v := .bool false) rfl).pin 24 (v := .bool false) rfl).pin 25 (v := .slice (some a) n c) rfl).pin 26 (v := .int .i64 n) rfl).pin 27 (v := .int .i64 (k : Int)) rfl).pin 61 (v := undef) rfl).pin 11 (v := .pointer (some (⟨wr.heap.size, 0, none⟩))) rfl)
          clear hs0
          generalize (fun i => Array.getD _ i undef) = g0 at ha0
          refine sq_val (v := v) ha0 rfl (rfl) fun a1 ha1 => ?_
          refine sq_val (v := rn s) ha1 rfl (run_loadRn rfl HV3.out.rnAt) fun a2 ha2 => ?_
          refine sq_val (v := .slice (some ⟨W3.heap.size, 0, none⟩) 1 1) ha2 rfl (run_litRn rfl) fun a3 ha3 => ?_
          refine sq_val (v := v') ha3 rfl (run_append rfl rfl H1.out) fun a4 ha4 => ?_
          refine sq_val (v := v') ha4 rfl (rfl) fun a5 ha5 => ?_
          refine wpList_nil ?_
          refine hKn _ _ ?_
          obtain ⟨g9, hg9, k0, k1, k2, k3, k4, k5, k6, k7, k8, k9, k10, k12, k13, k14, k15, k16, k17, k18, k19, k20, k21, k22, k23, k24, k25, k26, k27, k61, k11⟩ : ∃ g9, Is a5 62 g9 ∧ g9 0 = .slice (some a) n c ∧ g9 1 = .int .i64 dx ∧ g9 2 = .int .i64 dy ∧ g9 3 = undef ∧ g9 4 = undef ∧ g9 5 = undef ∧ g9 6 = .slice none 0 0 ∧ g9 7 = .int .i64 0 ∧ g9 8 = .int .i64 0 ∧ g9 9 = v' ∧ g9 10 = undef ∧ g9 12 = .slice (some a) n c ∧ g9 13 = .int .i64 0 ∧ g9 14 = .int .i64 0 ∧ g9 15 = .bool false ∧ g9 16 = undef ∧ g9 17 = .int .i64 dx ∧ g9 18 = .bool true ∧ g9 19 = .bool false ∧ g9 20 = .bool false ∧ g9 21 = .int .i64 dy ∧ g9 22 = .bool true ∧ g9 23 = .bool false ∧ g9 24 = .bool false ∧ g9 25 = .slice (some a) n c ∧ g9 26 = .int .i64 n ∧ g9 27 = .int .i64 (k : Int) ∧ g9 61 = undef ∧ g9 11 = .pointer (some (⟨wr.heap.size, 0, none⟩)) := ⟨_, ha5, rfl, rfl, rfl, rfl, rfl, rfl, rfl, rfl, rfl, rfl, rfl, rfl, rfl, rfl, rfl, rfl, rfl, rfl, rfl, rfl, rfl, rfl, rfl, rfl, rfl, rfl, rfl, rfl, rfl⟩
          have hw := hg9.whole
          rw [show ((List.range 62).map g9).toArray = #[g9 0, g9 1, g9 2, g9 3, g9 4, g9 5, g9 6, g9 7, g9 8, g9 9, g9 10, g9 11, g9 12, g9 13, g9 14, g9 15, g9 16, g9 17, g9 18, g9 19, g9 20, g9 21, g9 22, g9 23, g9 24, g9 25, g9 26, g9 27, g9 28, g9 29, g9 30, g9 31, g9 32, g9 33, g9 34, g9 35, g9 36, g9 37, g9 38, g9 39, g9 40, g9 41, g9 42, g9 43, g9 44, g9 45, g9 46, g9 47, g9 48, g9 49, g9 50, g9 51, g9 52, g9 53, g9 54, g9 55, g9 56, g9 57, g9 58, g9 59, g9 60, g9 61] from rfl] at hw
          rw [k0, k1, k2, k3, k4, k5, k6, k7, k8, k9, k10, k12, k13, k14, k15, k16, k17, k18, k19, k20, k21, k22, k23, k24, k25, k26, k27, k61, k11] at hw
          subst hw
          clear hg9 k0 k1 k2 k3 k4 k5 k6 k7 k8 k9 k10 k12 k13 k14 k15 k16 k17 k18 k19 k20 k21 k22 k23 k24 k25 k26 k27 k61 k11
          clear ha0 ha1 ha2 ha3 ha4 ha5 hKn Kn
          go_wp2_with fail
          go_roundw
          case rel => exact ⟨k + 1, v', rfl, by omega, by go_num, HL4⟩
          case measure => simp [intOf]; omega
        · have HOK := hid (HT.out.trans (by rw [if_neg (show ¬ mvOk dx dy r = true from fun h => hq (of_decide_eq_true h).2), List.append_nil]))
          have HL4 := hid (show OwnR W3 w.heap.size v (shiftL dx dy (ss.take (k + 1))) ∧ Below w.heap.size w W3 from ⟨by rw [HOK.out]; exact HO3.out, HBW.out⟩)
          go_wp2_with (go_at_call 47; (with_reducible refine (perm_t _ _ (by assumption)).mono ?_); rintro e w' ⟨rfl, rfl⟩)
          go_roundw
          case rel => exact ⟨k + 1, v, rfl, by omega, by go_num, HL4⟩
          case measure => simp [intOf]; omega
      · have HOK := hid (HT.out.trans (by rw [if_neg (show ¬ mvOk dx dy r = true from fun h => hp (of_decide_eq_true h).1), List.append_nil]))
        have HL4 := hid (show OwnR W3 w.heap.size v (shiftL dx dy (ss.take (k + 1))) ∧ Below w.heap.size w W3 from ⟨by rw [HOK.out]; exact HO3.out, HBW.out⟩)
        go_wp2_with (go_at_call 47; (with_reducible refine (perm_f _ _ (by assumption)).mono ?_); rintro e w' ⟨rfl, rfl⟩)
        go_roundw
        case rel => exact ⟨k + 1, v, rfl, by omega, by go_num, HL4⟩
        case measure => simp [intOf]; omega
    · have HE := hid (show shiftL dx dy (ss.take k) = shiftL dx dy ss by rw [List.take_of_length_le (by have := HN.out; omega)])
      go_wp2_with fail
      go_ret2
      exact ⟨v, rfl, by rw [← HE.out]; exact HL.out.1, HL.out.2⟩

end Go.Proofs.Ytldbpabnfjnpbaa
