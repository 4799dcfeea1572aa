/- narrow of package morph. -/
import Derived.Test.YtldbpabnfjnpbaaMor
namespace Go.Proofs.Ytldbpabnfjnpbaa
open Go Go.RowKit
set_option linter.unusedVariables false
set_option linter.unusedSimpArgs false

theorem run_storeInt {ρ : Operand → Value} {x y : Operand} {t : TypeId} {pos : String} {af : Array Edge} {w : World} {gd : Option (Nat × Bool)} {B j : Nat} {z : Int} {u : Value} (hp : ρ x = .pointer (some ⟨B, j, none⟩)) (hq : ρ y = .int .i64 z)
    (hc : w.cell? ⟨B, j, none⟩ = some u) (hf : w.frozen? ⟨B, j, none⟩ = false) :
    (execOp ρ { dst := none, op := .store 3 x y, type := t, pos := pos, after := af, guard := gd }).run Try.prog w = .ok .skip (w.setCell ⟨B, j, none⟩ (.int .i64 z)) := by
  go_simp

/-- A row of the runs rs that the call made. -/
def GivesL (rs : List Rn) (w : World) (e : Ending) (w' : World) : Prop := ∃ v, e = .returned v ∧ OwnR w' w.heap.size v rs ∧ Below w.heap.size w w'
def LRel (L : Int → List Rn → List Rn) (d : Int) (ss : List Rn) (n : Nat) (w : World) (s5 sI : Value) (wr : World) : Prop := ∃ (k : Nat) (v : Value), s5 = v ∧ k ≤ n ∧ sI = .int .i64 k ∧ Hid (OwnR wr w.heap.size v (L d (ss.take k)) ∧ Below w.heap.size w wr)

set_option maxHeartbeats 4000000 in
set_option maxRecDepth 100000 in
theorem narrow_any (A : Option Addr) (ss : List Rn) (n c : Nat) (d : Int) (w : World) (hn : n = ss.length) (hs : Runs w A ss) (hc : chk ss = 0) (hd0 : 0 ≤ d) (hd1 : d ≤ 64) :
    Calls Try.prog 64 #[.slice A n c, .int .i64 d] w (GivesL (narL d ss) w) := by
  have HS := hid hs
  have HN := hid hn
  have HC := hid hc
  have hnb : n ≤ 1000000000 := by rw [hn]; exact chk_len hc
  clear hs hn hc
  go_enter Try.func64, Try.ntmps64
  go_wp2_with fail
  go_loopw [5, 10] (fun s5 sI wr => LRel narL d ss n w s5 sI wr) (fun _ sI _ => n - (intOf sI).toNat)
  case atStart => exact ⟨0, _, rfl, Nat.zero_le _, rfl, hid ⟨OwnR.nil _ _, Below.refl _ _⟩⟩
  case round =>
    obtain ⟨k, v, hv, hkn, rfl, HL⟩ := hrel
    have hv' := hv.symm
    clear hv
    subst hv'
    by_cases hlt : k < n
    · have hlz : k < ss.length := by rw [← HN.out]; exact hlt
      obtain ⟨a, rfl, hal, hsa⟩ := (HS.out.next HL.out.2).at_ hlz
      have HT := hid (show narL d (ss.take (k + 1)) = narL d (ss.take k) ++ (if ss[k].a + d < ss[k].b - d then [⟨ss[k].y, ss[k].a + d, ss[k].b - d⟩] else []) by rw [List.take_succ_eq_append_getElem hlz, narL_snoc])
      have hrin := (rnok_iff.1 ((chk_all HC.out).1 _ (List.getElem_mem hlz))).1
      have hlen : (narL d (ss.take k)).length ≤ 5000000000 := by have := narL_len d (ss.take k); rw [List.length_take] at this; have := HN.out; omega
      have HH := hid (show Hid (RnOk ss[k]) from hid ((chk_all HC.out).1 _ (List.getElem_mem hlz)))
      generalize ss[k] = r at hsa HT hrin HH
      obtain ⟨c0, c1, c2⟩ := hsa
      obtain ⟨⟨y0, y1⟩, ⟨a0', a1'⟩, ⟨b0', b1'⟩⟩ := hrin
      go_upto_region 5 with fail
      obtain ⟨W2, hW2⟩ : ∃ W2, W2 = wr.alloc (.cells (cel r) 37) := ⟨_, rfl⟩
      have HV := hid (show Var W2 wr.heap.size (cel r) 37 by rw [hW2]; exact Var.new _ _ _ _ rfl)
      have hb2 : Below wr.heap.size wr W2 := by rw [hW2]; exact (Below.refl _ _).alloc (Nat.le_refl _) _
      rw [← hW2]
      clear hW2 c0 c1 c2
      rename_i Kn hKn
      refine wp_region_lit ?_
      refine sq_start (n := 35) rfl fun a0 hs0 => ?_
      have ha0 := ((((((((((((hs0.pin 0 (v := .slice (some a) n c) rfl).pin 1 (v := .int .i64 d) rfl).pin 2 (v := undef) rfl).pin 3 (v := undef) rfl).pin 4 (v := .slice none 0 0) rfl).pin 5 (v := v) rfl).pin 6 (v := undef) rfl).pin 7 (v := .pointer (some (⟨wr.heap.size, 0, none⟩))) rfl).pin 8 (v := .slice (some a) n c) rfl).pin 9 (v := .int .i64 n) rfl).pin 10 (v := .int .i64 (k : Int)) rfl).pin 34 (v := undef) rfl)
      clear hs0
      generalize (fun i => Array.getD _ i undef) = g0 at ha0
      refine sq_val (v := .pointer (some (⟨wr.heap.size, 1, none⟩))) ha0 rfl (run_fld1 (a := ⟨wr.heap.size, 0, none⟩) rfl) fun a1 ha1 => ?_
      refine sq_val (v := .int .i64 r.a) ha1 rfl (run_loadInt rfl (HV.out.cell 1)) fun a2 ha2 => ?_
      refine sq_val (v := .int .i64 d) ha2 rfl (rfl) fun a3 ha3 => ?_
      refine sq_val (v := .int .i64 (r.a + d)) ha3 rfl (run_add rfl rfl (by unfold Rg; omega)) fun a4 ha4 => ?_
      refine sq_val (v := .pointer (some (⟨wr.heap.size, 2, none⟩))) ha4 rfl (run_fld2 (a := ⟨wr.heap.size, 0, none⟩) rfl) fun a5 ha5 => ?_
      refine sq_val (v := .int .i64 r.b) ha5 rfl (run_loadInt rfl (HV.out.cell 2)) fun a6 ha6 => ?_
      refine sq_val (v := .int .i64 d) ha6 rfl (rfl) fun a7 ha7 => ?_
      refine sq_val (v := .int .i64 (r.b - d)) ha7 rfl (run_sub rfl rfl (by unfold Rg; omega)) fun a8 ha8 => ?_
      refine sq_val (v := .pointer (some (⟨wr.heap.size, 1, none⟩))) ha8 rfl (run_fld1 (a := ⟨wr.heap.size, 0, none⟩) rfl) fun a9 ha9 => ?_
      refine sq_skip ha9 (run_storeInt rfl rfl (HV.out.cell 1) (HV.out.free 1)) fun a10 ha10 => ?_
      have HVx := hid (HV.out.set (i := 1) (.int .i64 (r.a + d)))
      refine sq_val (v := .pointer (some (⟨wr.heap.size, 2, none⟩))) ha10 rfl (run_fld2 (a := ⟨wr.heap.size, 0, none⟩) rfl) fun a11 ha11 => ?_
      refine sq_skip ha11 (run_storeInt rfl rfl (HVx.out.cell 2) (HVx.out.free 2)) fun a12 ha12 => ?_
      refine wpList_nil ?_
      refine hKn _ _ ?_
      obtain ⟨g9, hg9, k0, k1, k2, k3, k4, k5, k6, k7, k8, k9, k10, k34⟩ : ∃ g9, Is a12 35 g9 ∧ g9 0 = .slice (some a) n c ∧ g9 1 = .int .i64 d ∧ g9 2 = undef ∧ g9 3 = undef ∧ g9 4 = .slice none 0 0 ∧ g9 5 = v ∧ g9 6 = undef ∧ g9 7 = .pointer (some (⟨wr.heap.size, 0, none⟩)) ∧ g9 8 = .slice (some a) n c ∧ g9 9 = .int .i64 n ∧ g9 10 = .int .i64 (k : Int) ∧ g9 34 = undef := ⟨_, ha12, rfl, rfl, rfl, rfl, rfl, rfl, rfl, rfl, rfl, rfl, rfl, rfl⟩
      have hw := hg9.whole
      rw [show ((List.range 35).map g9).toArray = #[g9 0, g9 1, g9 2, g9 3, g9 4, g9 5, g9 6, g9 7, g9 8, g9 9, g9 10, g9 11, g9 12, g9 13, g9 14, g9 15, g9 16, g9 17, g9 18, g9 19, g9 20, g9 21, g9 22, g9 23, g9 24, g9 25, g9 26, g9 27, g9 28, g9 29, g9 30, g9 31, g9 32, g9 33, g9 34] from rfl] at hw
      rw [k0, k1, k2, k3, k4, k5, k6, k7, k8, k9, k10, k34] at hw
      subst hw
      clear hg9 k0 k1 k2 k3 k4 k5 k6 k7 k8 k9 k10 k34
      clear ha0 ha1 ha2 ha3 ha4 ha5 ha6 ha7 ha8 ha9 ha10 ha11 ha12 hKn Kn
      have HV2 := hid (show Var _ wr.heap.size (cel ⟨r.y, r.a + d, r.b - d⟩) 37 from (HV.out.set (i := 1) (.int .i64 (r.a + d))).set (i := 2) (.int .i64 (r.b - d)))
      have HB3 := hid ((hb2.setCell (p := ⟨wr.heap.size, 1, none⟩) (Nat.le_refl _) (.int .i64 (r.a + d))).setCell (p := ⟨wr.heap.size, 2, none⟩) (Nat.le_refl _) (.int .i64 (r.b - d)))
      generalize World.setCell _ ⟨wr.heap.size, 2, none⟩ _ = W3 at HV2 HB3 ⊢
      have HO3 := hid (HL.out.1.next HB3.out)
      have HBW := hid (below_next HL.out.2 HB3.out)
      clear HV HVx hb2
      obtain ⟨p0, p1, p2, pf⟩ := HV2.out.read3
      by_cases hq : r.a + d < r.b - d
      · have HOK := hid (HT.out.trans (by rw [if_pos hq]))
        obtain ⟨v', w4, g1, g2, g3⟩ := append_rn (ty := 22) (s := ⟨r.y, r.a + d, r.b - d⟩) HBW.out.size HO3.out hlen
        have H1 := hid g1
        have HL4 := hid (show OwnR w4 w.heap.size v' (narL d (ss.take (k + 1))) ∧ Below w.heap.size w w4 from ⟨by rw [HOK.out]; exact g2, HBW.out.grown g3.g HBW.out.size (fun j hj => (HO3.out.ge j hj).1)⟩)
        clear g1 g2 g3
        obtain ⟨s, hs⟩ : ∃ s : Rn, s = ⟨r.y, r.a + d, r.b - d⟩ := ⟨_, rfl⟩
        have HV3 := hid (show Var W3 wr.heap.size (cel s) 37 by rw [hs]; exact HV2.out)
        rw [← hs] at H1
        clear hs
        go_upto_region 7 with fail
        rename_i Kn hKn
        refine wp_region_lit ?_
        refine sq_start (n := 35) rfl fun a0 hs0 => ?_
        have ha0 := ((((((((((((hs0.pin 0 (v := .slice (some a) n c) rfl).pin 1 (v := .int .i64 d) rfl).pin 2 (v := undef) rfl).pin 3 (v := undef) rfl).pin 4 (v := .slice none 0 0) rfl).pin 5 (v := v) rfl).pin 6 (v := undef) rfl).pin 7 (v := .pointer (some (⟨wr.heap.size, 0, none⟩))) rfl).pin 8 (v := .slice (some a) n c) rfl).pin 9 (v := .int .i64 n) rfl).pin 10 (v := .int .i64 (k : Int)) rfl).pin 34 (v := undef) rfl)
        clear hs0
        generalize (fun i => Array.getD _ i undef) = g0 at ha0
        refine sq_val (v := v) ha0 rfl (rfl) fun a1 ha1 => ?_
        refine sq_val (v := rn s) ha1 rfl (run_loadRn rfl HV3.out.rnAt) fun a2 ha2 => ?_
        refine sq_val (v := .slice (some ⟨W3.heap.size, 0, none⟩) 1 1) ha2 rfl (run_litRn rfl) fun a3 ha3 => ?_
        refine sq_val (v := v') ha3 rfl (run_append rfl rfl H1.out) fun a4 ha4 => ?_
        refine sq_val (v := v') ha4 rfl (rfl) fun a5 ha5 => ?_
        refine wpList_nil ?_
        refine hKn _ _ ?_
        obtain ⟨g9, hg9, k0, k1, k2, k3, k4, k5, k6, k7, k8, k9, k10, k34⟩ : ∃ g9, Is a5 35 g9 ∧ g9 0 = .slice (some a) n c ∧ g9 1 = .int .i64 d ∧ g9 2 = undef ∧ g9 3 = undef ∧ g9 4 = .slice none 0 0 ∧ g9 5 = v' ∧ g9 6 = undef ∧ g9 7 = .pointer (some (⟨wr.heap.size, 0, none⟩)) ∧ g9 8 = .slice (some a) n c ∧ g9 9 = .int .i64 n ∧ g9 10 = .int .i64 (k : Int) ∧ g9 34 = undef := ⟨_, ha5, rfl, rfl, rfl, rfl, rfl, rfl, rfl, rfl, rfl, rfl, rfl, rfl⟩
        have hw := hg9.whole
        rw [show ((List.range 35).map g9).toArray = #[g9 0, g9 1, g9 2, g9 3, g9 4, g9 5, g9 6, g9 7, g9 8, g9 9, g9 10, g9 11, g9 12, g9 13, g9 14, g9 15, g9 16, g9 17, g9 18, g9 19, g9 20, g9 21, g9 22, g9 23, g9 24, g9 25, g9 26, g9 27, g9 28, g9 29, g9 30, g9 31, g9 32, g9 33, g9 34] from rfl] at hw
        rw [k0, k1, k2, k3, k4, k5, k6, k7, k8, k9, k10, k34] at hw
        subst hw
        clear hg9 k0 k1 k2 k3 k4 k5 k6 k7 k8 k9 k10 k34
        clear ha0 ha1 ha2 ha3 ha4 ha5 hKn Kn
        go_wp2_with fail
        go_roundw
        case rel => exact ⟨k + 1, v', rfl, by omega, by go_num, HL4⟩
        case measure => simp [intOf]; omega
      · have HOK := hid (HT.out.trans (by rw [if_neg hq, List.append_nil]))
        have HL4 := hid (show OwnR W3 w.heap.size v (narL d (ss.take (k + 1))) ∧ Below w.heap.size w W3 from ⟨by rw [HOK.out]; exact HO3.out, HBW.out⟩)
        go_wp2_with fail
        go_roundw
        case rel => exact ⟨k + 1, v, rfl, by omega, by go_num, HL4⟩
        case measure => simp [intOf]; omega
    · have HE := hid (show narL d (ss.take k) = narL d ss by rw [List.take_of_length_le (by have := HN.out; omega)])
      go_wp2_with fail
      go_ret
      exact ⟨v, rfl, by rw [← HE.out]; exact HL.out.1, HL.out.2⟩

end Go.Proofs.Ytldbpabnfjnpbaa
