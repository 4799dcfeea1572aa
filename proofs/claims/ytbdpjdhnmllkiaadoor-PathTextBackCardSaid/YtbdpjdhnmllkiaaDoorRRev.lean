/- What the reference's Reversed returns. -/
import Derived.Test.YtbdpjdhnmllkiaaDoorAppR
namespace Go.Proofs.YtbdpjdhnmllkiaaDoor
open Go Go.RowKit
set_option linter.unusedVariables false
set_option linter.unusedSimpArgs false

theorem takeWhile_stop (p : Sg → Bool) : ∀ (l : List Sg), (l.takeWhile p).length < l.length → p (l.getD (l.takeWhile p).length default) = false
  | [], h => by simp at h
  | s :: r, h => by
    by_cases hs : p s = true
    · rw [List.takeWhile_cons, if_pos hs] at h ⊢
      have := takeWhile_stop p r (by simpa using h)
      simpa using this
    · rw [List.takeWhile_cons, if_neg hs]
      simpa using hs
theorem ends_move (ss : List Sg) (i : Nat) (h : ends ss i < ss.length) : (sg ss (ends ss i)).k = 1 := by
  have h1 : ((ss.drop (i + 1)).takeWhile fun s => decide (s.k ≠ 1)).length < (ss.drop (i + 1)).length := by
    rw [List.length_drop]; unfold ends at h; omega
  have h2 := takeWhile_stop _ _ h1
  have e : (ss.drop (i + 1)).getD ((ss.drop (i + 1)).takeWhile fun s => decide (s.k ≠ 1)).length default = sg ss (ends ss i) := by
    unfold sg ends
    rw [List.getD_eq_getElem?_getD, List.getD_eq_getElem?_getD, List.getElem?_drop]
  rw [e] at h2
  simpa using h2

set_option maxHeartbeats 12800000 in
set_option maxRecDepth 100000 in
theorem rrev_any (A : Option Addr) (ss : List Sg) (n c : Nat) (w : World) (hn : n = ss.length) (hs : Segs w A ss) (hok : chk ss = 0) :
    Calls Tryd.prog 27 #[.slice A n c] w fun e w' => ∃ v, e = .returned v ∧ w'.ownsRow w.heap.size 32 6 v (rev ss).length (flat (rev ss)) ∧ Below w.heap.size w w' := by
  have HS := hid hs
  have hle := chk_le hok
  have HOK := hid hok
  subst hn
  clear hs hok
  go_enter Tryd.func27, Tryd.ntmps27
  go_wp2_with fail
  go_loopw [3, 4] (fun s3 s4 wr => ∃ (i : Nat) (acc : List Sg), acc.length = i ∧ i ≤ ss.length ∧ Hid (i < ss.length → (sg ss i).k = 1) ∧ s4 = .int .i64 i ∧ Hid (rev ss = acc ++ revFrom ss ss.length i) ∧ Hid (wr.ownsRow w.heap.size 32 6 s3 acc.length (flat acc)) ∧ Hid (Below w.heap.size w wr)) (fun _ s4 _ => ss.length - (intOf s4).toNat)
  case atStart => exact ⟨0, [], rfl, Nat.zero_le _, hid (first_move HOK.out), rfl, hid rfl, hid (World.ownsRow_nil _ _ _ _), hid (Below.refl _ w)⟩
  case round =>
    obtain ⟨i, acc, hacc, hile, HMV, rfl, HREV, HOJ, HBJ⟩ := hrel
    by_cases hlt : i < ss.length
    · obtain ⟨a, rfl, ha, -⟩ := HS.out.at_ hlt
      have HS0 := HS
      have hE1 := ends_gt ss i
      have hE2 := ends_le hlt
      have HE1 := hid hE1
      have HE2 := hid hE2
      have HKE := hid (segs_sg HS.out (show ends ss i - 1 < ss.length by omega)).2
      obtain ⟨q0, -, -, -, -, -⟩ := HKE.out.below HBJ.out (by rw [add_block]; exact ha)
      have HREV := hid (HREV.out.trans (by rw [revFrom_at hlt]))
      have HRS := hid (rfl : revSub ss i (ends ss i) = revSub ss i (ends ss i))
      have HCL := hid (fun (h : (sg ss (ends ss i - 1)).k = 4) => show i + 2 ≤ ends ss i from closed_len HOK.out hlt (HMV.out hlt) h)
      by_cases hk4 : (sg ss (ends ss i - 1)).k = 4
      · have hb : ((sg ss (ends ss i - 1)).k == 4) = true := by simp [hk4]
        have hl2e : i + 2 ≤ ends ss i := HCL.out hk4
        have HREV1 := hid (show rev ss = acc ++ (mvOf ss (ends ss i - 2) :: backs ss i (ends ss i - 2 - i)) ++ [⟨4, 0, 0, 0, 0, 0⟩] ++ revFrom ss ss.length (ends ss i) by rw [HREV.out]; unfold revSub lastOf; simp [hk4])
        clear hk4 HREV HRS HCL HKE
        generalize hkk : (sg ss (ends ss i - 1)).k = k4 at hb q0
        clear hkk
        generalize hee : ends ss i - 2 = l at HREV1
        have HREV := HREV1
        have HEE := hid hee
        have hl0 : l < ss.length := by omega
        have hil : i ≤ l := by omega
        have hbd : ends ss i = l + 2 := by omega
        have HBD := hid hbd
        clear hee hbd
        have hl1 : (0:Int) ≤ (l:Int) := by omega
        have hl2 : (l:Int) < (ss.length:Int) := by omega
        have HL := hid (segs_sg HS.out (show l < ss.length by omega)).2
        obtain ⟨v2, W2, hrun, hown2, hbel2⟩ := F2.append_seg (s := mvOf ss l) (ty := 22) (show w.heap.size ≤ wr.drew.heap.size from HBJ.out.size) (show wr.drew.ownsRow w.heap.size 32 6 u3 acc.length (flat acc) from HOJ.out) (by omega)
        have HO2 := hid hown2
        have HBW := hid (show Below w.heap.size w W2 from (HBJ.out.drew).trans hbel2)
        clear hown2 hbel2
        generalize hmv : mvOf ss l = mv at hrun HO2 HREV
        go_wp2_with fail
        (with_reducible refine (rends_any (some a) ss ss.length c i _ rfl (HS.out.next HBJ.out) hle hlt).mono ?_); rintro e w4 ⟨rfl, rfl⟩
        go_upto_region 9 with fail
        rename_i Kn hKn
        refine F2.wp_region_fan 14 [12, 13] (F2.Ex (F2.w3 wr.drew (wr.drew.alloc (.cells (cel mv) 32)) W2)) (by kernel_rfl) (by kernel_rfl) (by kernel_rfl) rfl ?_
        simp only [List.take_succ_cons, List.take_zero, List.drop_succ_cons, List.drop_zero]
        have LB := F2.ex_below (B := w.heap.size) (w := w) (a := wr.drew) (b := wr.drew.alloc (.cells (cel mv) 32)) (c := W2) (HBJ.out.drew) ((HBJ.out.drew).alloc HBJ.out.size _) HBW.out
        have LX := fun b w1 (h : F2.Ex (F2.w3 wr.drew (wr.drew.alloc (.cells (cel mv) 32)) W2) b w1) => ((HL.out.below (LB b w1 h) (by rw [add_block]; exact ha))).c1
        have LY := fun b w1 (h : F2.Ex (F2.w3 wr.drew (wr.drew.alloc (.cells (cel mv) 32)) W2) b w1) => ((HL.out.below (LB b w1 h) (by rw [add_block]; exact ha))).c2
        refine F2.WalksE.sound _ _ _ _ ?_ (((((((((Is.start _ (n := 88) rfl).pin 0 (v := .slice (some a) ss.length c) rfl).pin 1 (v := undef) rfl).pin 2 (v := .slice none 0 0) rfl).pin 3 (v := u3) rfl).pin 4 (v := .int .i64 i) rfl).pin 5 (v := .int .i64 l) (by have := HEE.out; refine congrArg (Value.int IntKind.i64) ?_; omega)).pin 6 (v := .bool true) rfl).pin 87 (v := undef) rfl)
        generalize (fun i => Array.getD _ i undef) = g0
        refine F2.walks_with fun KQ hKQ => ?_
        (refine F2.walks_one fun K hK => ?_); refine F2.st_pure rfl rfl (fun _ => rfl) ?_; refine hK _ ?_; clear hK K
        (refine F2.walks_one fun K hK => ?_); refine F2.st_pure rfl rfl (fun _ => rfl) ?_; refine hK _ ?_; clear hK K
        (refine F2.walks_one fun K hK => ?_); refine F2.st_pure rfl rfl (fun _ => rfl) ?_; refine hK _ ?_; clear hK K
        (refine F2.walks_one fun K hK => ?_); refine F2.st_pure rfl rfl (fun _ => run_index rfl rfl hl1 hl2) ?_; refine hK _ ?_; clear hK K
        (refine F2.walks_one fun K hK => ?_); refine F2.st_pure rfl rfl (fun _ => run_fld (by omega) rfl) ?_; refine hK _ ?_; clear hK K
        (refine F2.walks_one fun K hK => ?_); refine F2.st_loadFld LX rfl rfl rfl ?_; refine hK _ ?_; clear hK K
        (refine F2.walks_one fun K hK => ?_); refine F2.st_pure rfl rfl (fun _ => rfl) ?_; refine hK _ ?_; clear hK K
        (refine F2.walks_one fun K hK => ?_); refine F2.st_pure rfl rfl (fun _ => rfl) ?_; refine hK _ ?_; clear hK K
        (refine F2.walks_one fun K hK => ?_); refine F2.st_pure rfl rfl (fun _ => run_index rfl rfl hl1 hl2) ?_; refine hK _ ?_; clear hK K
        (refine F2.walks_one fun K hK => ?_); refine F2.st_pure rfl rfl (fun _ => run_fld (by omega) rfl) ?_; refine hK _ ?_; clear hK K
        (refine F2.walks_one fun K hK => ?_); refine F2.st_loadFld LY rfl rfl rfl ?_; refine hK _ ?_; clear hK K
        (refine F2.walks_one fun K hK => ?_); refine F2.st_pure (v := seg mv) rfl rfl (fun _ => (F2.run_build3 (c0 := undef) rfl rfl rfl).trans (by rw [← hmv])) ?_; refine hK _ ?_; clear hK K
        (refine F2.walks_one fun K hK => ?_); refine F2.st_turn (v := .slice (some ⟨wr.drew.heap.size, 0, none⟩) 1 1) 0 rfl (by decide) rfl (fun w2 h => ⟨_, by cases h; exact F2.run_lit (s := mv) rfl, rfl⟩) ?_; refine hK _ ?_; clear hK K
        (refine F2.walks_one fun K hK => ?_); refine F2.st_turn (v := v2) 1 rfl (by decide) rfl (fun w2 h => ⟨W2, by cases h; exact F2.run_append rfl rfl hrun, rfl⟩) ?_; refine hK _ ?_; clear hK K
        refine F2.walks_end fun a9 ha9 => hKQ _ fun w1 hC => ?_
        have e90 : a9.eval (Operand.tmp 40) = v2 := by rw [ha9.eval]; rfl
        refine tailB ?_
        refine hKn _ _ ?_
        rw [e90]
        obtain ⟨h9, hg9, k0, k1, k2, k4, k5, k6, k87, k3⟩ : ∃ g9, Is (a9.put (some 3) (v2)) 88 g9 ∧ g9 0 = .slice (some a) ss.length c ∧ g9 1 = undef ∧ g9 2 = .slice none 0 0 ∧ g9 4 = .int .i64 i ∧ g9 5 = .int .i64 l ∧ g9 6 = .bool true ∧ g9 87 = undef ∧ g9 3 = v2 := ⟨_, ha9.put (d := 3) (by decide) _, rfl, rfl, rfl, rfl, rfl, rfl, rfl, rfl⟩
        have hw := hg9.whole
        rw [show ((List.range 88).map h9).toArray = #[h9 0, h9 1, h9 2, h9 3, h9 4, h9 5, h9 6, h9 7, h9 8, h9 9, h9 10, h9 11, h9 12, h9 13, h9 14, h9 15, h9 16, h9 17, h9 18, h9 19, h9 20, h9 21, h9 22, h9 23, h9 24, h9 25, h9 26, h9 27, h9 28, h9 29, h9 30, h9 31, h9 32, h9 33, h9 34, h9 35, h9 36, h9 37, h9 38, h9 39, h9 40, h9 41, h9 42, h9 43, h9 44, h9 45, h9 46, h9 47, h9 48, h9 49, h9 50, h9 51, h9 52, h9 53, h9 54, h9 55, h9 56, h9 57, h9 58, h9 59, h9 60, h9 61, h9 62, h9 63, h9 64, h9 65, h9 66, h9 67, h9 68, h9 69, h9 70, h9 71, h9 72, h9 73, h9 74, h9 75, h9 76, h9 77, h9 78, h9 79, h9 80, h9 81, h9 82, h9 83, h9 84, h9 85, h9 86, h9 87] from rfl] at hw
        rw [k0, k1, k2, k4, k5, k6, k87, k3] at hw
        rw [show (a9.put (some 3) _) = _ from hw]
        have HR := hid hC
        clear hw hC hg9 k0 k1 k2 k4 k5 k6 k87 k3 ha9 e90 hKQ KQ hKn LB LX LY hrun
        obtain rfl : w1 = W2 := HR.out
        clear HR HBJ HOJ HL
        go_wp2_with fail
        go_loopw [3, 5] (fun s3 s5 wr => ∃ (d : Nat) (acc2 : List Sg), i + d ≤ l ∧ s5 = .int .i64 ((i + d : Nat) : Int) ∧ acc2.length + d = i + 1 + (l - i) ∧ Hid (acc ++ (mv :: backs ss i (l - i)) = acc2 ++ backs ss i d) ∧ Hid (wr.ownsRow w.heap.size 32 6 s3 acc2.length (flat acc2)) ∧ Hid (Below w.heap.size w wr)) (fun _ s5 _ => (intOf s5).toNat)
        case atStart => exact ⟨l - i, acc ++ [mv], by omega, by congr 1; omega, by simp; omega, hid (by simp), (by rw [List.length_append]; exact HO2), HBW⟩
        case round =>
          obtain ⟨d0, acc2, hd, rfl, hk, HE, HOJ, HBJ⟩ := hrel
          rcases Nat.eq_zero_or_pos d0 with hd0 | hd0
          · subst hd0
            go_wp2_with (at_builtin; refine wpList_append_by rfl _ _ _ _ rfl _ _ rfl rfl (F2.append_seg (s := ⟨4, 0, 0, 0, 0, 0⟩) HBJ.out.size HOJ.out (by omega)) ?_)
            intro v3 w3 h1 h2
            have H1 := hid (show w3.ownsRow w.heap.size 32 6 v3 (acc2 ++ [(⟨4, 0, 0, 0, 0, 0⟩ : Sg)]).length (flat (acc2 ++ [(⟨4, 0, 0, 0, 0, 0⟩ : Sg)])) by rw [List.length_append]; exact h1)
            have H2 := hid (HBJ.out.trans h2)
            clear h1 h2
            have HF := hid (show rev ss = (acc2 ++ [⟨4, 0, 0, 0, 0, 0⟩]) ++ revFrom ss ss.length (ends ss i) by rw [HREV.out, ← show acc ++ mv :: backs ss i (l - i) = acc2 from HE.out.trans (List.append_nil _)]; try simp)
            go_wp2_with (first | (go_at_call 50; refine (rends_any (some a) ss ss.length c i _ rfl (HS0.out.next H2.out) (by omega) hlt).mono ?_; rintro e w4 ⟨rfl, rfl⟩))
            go_roundw
            case rel => exact ⟨ends ss i, acc2 ++ [⟨4, 0, 0, 0, 0, 0⟩], by have := HBD.out; simp; omega, HE2.out, hid (ends_move ss i), rfl, HF, H1, H2⟩
            case measure => have := HE1.out; have := HE2.out; simp [intOf]; omega
          · obtain ⟨d, rfl⟩ : ∃ d, d0 = d + 1 := ⟨d0 - 1, by omega⟩
            have hd1 : (0:Int) ≤ ((i + d : Nat):Int) := by omega
            have hd2 : ((i + d : Nat):Int) < (ss.length:Int) := by omega
            have hd3 : (0:Int) ≤ ((i + d + 1 : Nat):Int) := by omega
            have hd4 : ((i + d + 1 : Nat):Int) < (ss.length:Int) := by omega
            have HD := hid (segs_sg HS0.out (show i + d < ss.length by omega)).2
            have HD1 := hid (segs_sg HS0.out (show i + d + 1 < ss.length by omega)).2
            obtain ⟨v2, W2, hrun, hown2, hbel2⟩ := F2.append_seg (s := ⟨(sg ss (i + d + 1)).k, (sg ss (i + d)).x, (sg ss (i + d)).y, (sg ss (i + d + 1)).u, (sg ss (i + d + 1)).v, (sg ss (i + d + 1)).w⟩) (ty := 22) (show w.heap.size ≤ wr.drew.heap.size from HBJ.out.size) (show wr.drew.ownsRow w.heap.size 32 6 u3 acc2.length (flat acc2) from HOJ.out) (by omega)
            have HEN := hid (show acc ++ (mv :: backs ss i (l - i)) = (acc2 ++ [⟨(sg ss (i + d + 1)).k, (sg ss (i + d)).x, (sg ss (i + d)).y, (sg ss (i + d + 1)).u, (sg ss (i + d + 1)).v, (sg ss (i + d + 1)).w⟩]) ++ backs ss i d by rw [HE.out, List.append_assoc, backs_succ]; rfl)
            have HO2 := hid hown2
            have HBW := hid (show Below w.heap.size w W2 from (HBJ.out.drew).trans hbel2)
            clear hown2 hbel2 HE
            generalize hmv : (⟨(sg ss (i + d + 1)).k, (sg ss (i + d)).x, (sg ss (i + d)).y, (sg ss (i + d + 1)).u, (sg ss (i + d + 1)).v, (sg ss (i + d + 1)).w⟩ : Sg) = mv at hrun HO2 HEN
            go_upto_region 12 with fail
            rename_i Kn hKn
            refine F2.wp_region_fan 36 [34, 35] (F2.Ex (F2.w3 wr.drew (wr.drew.alloc (.cells (cel mv) 32)) W2)) (by kernel_rfl) (by kernel_rfl) (by kernel_rfl) rfl ?_
            simp only [List.take_succ_cons, List.take_zero, List.drop_succ_cons, List.drop_zero]
            have LB := F2.ex_below (B := w.heap.size) (w := w) (a := wr.drew) (b := wr.drew.alloc (.cells (cel mv) 32)) (c := W2) (HBJ.out.drew) ((HBJ.out.drew).alloc HBJ.out.size _) HBW.out
            have LK := fun b w1 (h : F2.Ex (F2.w3 wr.drew (wr.drew.alloc (.cells (cel mv) 32)) W2) b w1) => ((HD1.out.below (LB b w1 h) (by rw [add_block]; exact ha))).c0
            have LX := fun b w1 (h : F2.Ex (F2.w3 wr.drew (wr.drew.alloc (.cells (cel mv) 32)) W2) b w1) => ((HD.out.below (LB b w1 h) (by rw [add_block]; exact ha))).c1
            have LY := fun b w1 (h : F2.Ex (F2.w3 wr.drew (wr.drew.alloc (.cells (cel mv) 32)) W2) b w1) => ((HD.out.below (LB b w1 h) (by rw [add_block]; exact ha))).c2
            have LU := fun b w1 (h : F2.Ex (F2.w3 wr.drew (wr.drew.alloc (.cells (cel mv) 32)) W2) b w1) => ((HD1.out.below (LB b w1 h) (by rw [add_block]; exact ha))).c3
            have LV := fun b w1 (h : F2.Ex (F2.w3 wr.drew (wr.drew.alloc (.cells (cel mv) 32)) W2) b w1) => ((HD1.out.below (LB b w1 h) (by rw [add_block]; exact ha))).c4
            have LW := fun b w1 (h : F2.Ex (F2.w3 wr.drew (wr.drew.alloc (.cells (cel mv) 32)) W2) b w1) => ((HD1.out.below (LB b w1 h) (by rw [add_block]; exact ha))).c5
            refine F2.WalksE.sound _ _ _ _ ?_ ((((((((((((((((((((((((((((((((((((((((((((((((Is.start _ (n := 88) rfl).pin 0 (v := .slice (some a) ss.length c) rfl).pin 1 (v := undef) rfl).pin 2 (v := .slice none 0 0) rfl).pin 3 (v := u3) rfl).pin 4 (v := .int .i64 i) rfl).pin 5 (v := .int .i64 (((i + d) + 1 : Nat) : Int)) rfl).pin 6 (v := .bool true) rfl).pin 7 (v := h9 7) rfl).pin 8 (v := h9 8) rfl).pin 9 (v := h9 9) rfl).pin 10 (v := h9 10) rfl).pin 11 (v := h9 11) rfl).pin 12 (v := h9 12) rfl).pin 13 (v := h9 13) rfl).pin 14 (v := h9 14) rfl).pin 15 (v := h9 15) rfl).pin 16 (v := h9 16) rfl).pin 17 (v := h9 17) rfl).pin 18 (v := h9 18) rfl).pin 19 (v := h9 19) rfl).pin 20 (v := h9 20) rfl).pin 21 (v := h9 21) rfl).pin 22 (v := h9 22) rfl).pin 23 (v := h9 23) rfl).pin 24 (v := h9 24) rfl).pin 25 (v := h9 25) rfl).pin 26 (v := h9 26) rfl).pin 27 (v := h9 27) rfl).pin 28 (v := h9 28) rfl).pin 29 (v := h9 29) rfl).pin 30 (v := h9 30) rfl).pin 31 (v := h9 31) rfl).pin 32 (v := h9 32) rfl).pin 33 (v := h9 33) rfl).pin 34 (v := h9 34) rfl).pin 35 (v := h9 35) rfl).pin 36 (v := h9 36) rfl).pin 37 (v := h9 37) rfl).pin 38 (v := h9 38) rfl).pin 39 (v := h9 39) rfl).pin 40 (v := h9 40) rfl).pin 82 (v := h9 82) rfl).pin 83 (v := h9 83) rfl).pin 84 (v := h9 84) rfl).pin 85 (v := h9 85) rfl).pin 86 (v := h9 86) rfl).pin 87 (v := undef) rfl)
            generalize (fun i => Array.getD _ i undef) = g0
            refine F2.walks_with fun KQ hKQ => ?_
            (refine F2.walks_one fun K hK => ?_); refine F2.st_pure rfl rfl (fun _ => rfl) ?_; refine hK _ ?_; clear hK K
            (refine F2.walks_one fun K hK => ?_); refine F2.st_pure rfl rfl (fun _ => rfl) ?_; refine hK _ ?_; clear hK K
            (refine F2.walks_one fun K hK => ?_); refine F2.st_pure rfl rfl (fun _ => rfl) ?_; refine hK _ ?_; clear hK K
            (refine F2.walks_one fun K hK => ?_); refine F2.st_pure rfl rfl (fun _ => run_index rfl rfl hd3 hd4) ?_; refine hK _ ?_; clear hK K
            (refine F2.walks_one fun K hK => ?_); refine F2.st_pure rfl rfl (fun _ => run_fld (by omega) rfl) ?_; refine hK _ ?_; clear hK K
            (refine F2.walks_one fun K hK => ?_); refine F2.st_loadFld LK rfl rfl rfl ?_; refine hK _ ?_; clear hK K
            (refine F2.walks_one fun K hK => ?_); refine F2.st_pure rfl rfl (fun _ => rfl) ?_; refine hK _ ?_; clear hK K
            (refine F2.walks_one fun K hK => ?_); refine F2.st_pure rfl rfl (fun _ => rfl) ?_; refine hK _ ?_; clear hK K
            (refine F2.walks_one fun K hK => ?_); refine F2.st_pure (v := .int .i64 ((i + d : Nat) : Int)) rfl rfl (fun _ => (run_sub1 rfl rfl (by omega) (by omega)).trans (by congr 3; omega)) ?_; refine hK _ ?_; clear hK K
            (refine F2.walks_one fun K hK => ?_); refine F2.st_pure rfl rfl (fun _ => run_index rfl rfl hd1 hd2) ?_; refine hK _ ?_; clear hK K
            (refine F2.walks_one fun K hK => ?_); refine F2.st_pure rfl rfl (fun _ => run_fld (by omega) rfl) ?_; refine hK _ ?_; clear hK K
            (refine F2.walks_one fun K hK => ?_); refine F2.st_loadFld LX rfl rfl rfl ?_; refine hK _ ?_; clear hK K
            (refine F2.walks_one fun K hK => ?_); refine F2.st_pure rfl rfl (fun _ => rfl) ?_; refine hK _ ?_; clear hK K
            (refine F2.walks_one fun K hK => ?_); refine F2.st_pure rfl rfl (fun _ => rfl) ?_; refine hK _ ?_; clear hK K
            (refine F2.walks_one fun K hK => ?_); refine F2.st_pure (v := .int .i64 ((i + d : Nat) : Int)) rfl rfl (fun _ => (run_sub1 rfl rfl (by omega) (by omega)).trans (by congr 3; omega)) ?_; refine hK _ ?_; clear hK K
            (refine F2.walks_one fun K hK => ?_); refine F2.st_pure rfl rfl (fun _ => run_index rfl rfl hd1 hd2) ?_; refine hK _ ?_; clear hK K
            (refine F2.walks_one fun K hK => ?_); refine F2.st_pure rfl rfl (fun _ => run_fld (by omega) rfl) ?_; refine hK _ ?_; clear hK K
            (refine F2.walks_one fun K hK => ?_); refine F2.st_loadFld LY rfl rfl rfl ?_; refine hK _ ?_; clear hK K
            (refine F2.walks_one fun K hK => ?_); refine F2.st_pure rfl rfl (fun _ => rfl) ?_; refine hK _ ?_; clear hK K
            (refine F2.walks_one fun K hK => ?_); refine F2.st_pure rfl rfl (fun _ => rfl) ?_; refine hK _ ?_; clear hK K
            (refine F2.walks_one fun K hK => ?_); refine F2.st_pure rfl rfl (fun _ => run_index rfl rfl hd3 hd4) ?_; refine hK _ ?_; clear hK K
            (refine F2.walks_one fun K hK => ?_); refine F2.st_pure rfl rfl (fun _ => run_fld (by omega) rfl) ?_; refine hK _ ?_; clear hK K
            (refine F2.walks_one fun K hK => ?_); refine F2.st_loadFld LU rfl rfl rfl ?_; refine hK _ ?_; clear hK K
            (refine F2.walks_one fun K hK => ?_); refine F2.st_pure rfl rfl (fun _ => rfl) ?_; refine hK _ ?_; clear hK K
            (refine F2.walks_one fun K hK => ?_); refine F2.st_pure rfl rfl (fun _ => rfl) ?_; refine hK _ ?_; clear hK K
            (refine F2.walks_one fun K hK => ?_); refine F2.st_pure rfl rfl (fun _ => run_index rfl rfl hd3 hd4) ?_; refine hK _ ?_; clear hK K
            (refine F2.walks_one fun K hK => ?_); refine F2.st_pure rfl rfl (fun _ => run_fld (by omega) rfl) ?_; refine hK _ ?_; clear hK K
            (refine F2.walks_one fun K hK => ?_); refine F2.st_loadFld LV rfl rfl rfl ?_; refine hK _ ?_; clear hK K
            (refine F2.walks_one fun K hK => ?_); refine F2.st_pure rfl rfl (fun _ => rfl) ?_; refine hK _ ?_; clear hK K
            (refine F2.walks_one fun K hK => ?_); refine F2.st_pure rfl rfl (fun _ => rfl) ?_; refine hK _ ?_; clear hK K
            (refine F2.walks_one fun K hK => ?_); refine F2.st_pure rfl rfl (fun _ => run_index rfl rfl hd3 hd4) ?_; refine hK _ ?_; clear hK K
            (refine F2.walks_one fun K hK => ?_); refine F2.st_pure rfl rfl (fun _ => run_fld (by omega) rfl) ?_; refine hK _ ?_; clear hK K
            (refine F2.walks_one fun K hK => ?_); refine F2.st_loadFld LW rfl rfl rfl ?_; refine hK _ ?_; clear hK K
            (refine F2.walks_one fun K hK => ?_); refine F2.st_pure (v := seg mv) rfl rfl (fun _ => (F2.run_build6 rfl rfl rfl rfl rfl rfl).trans (by rw [← hmv])) ?_; refine hK _ ?_; clear hK K
            (refine F2.walks_one fun K hK => ?_); refine F2.st_turn (v := .slice (some ⟨wr.drew.heap.size, 0, none⟩) 1 1) 0 rfl (by decide) rfl (fun w2 h => ⟨_, by cases h; exact F2.run_lit (s := mv) rfl, rfl⟩) ?_; refine hK _ ?_; clear hK K
            (refine F2.walks_one fun K hK => ?_); refine F2.st_turn (v := v2) 1 rfl (by decide) rfl (fun w2 h => ⟨W2, by cases h; exact F2.run_append rfl rfl hrun, rfl⟩) ?_; refine hK _ ?_; clear hK K
            refine F2.walks_end fun a9 ha9 => hKQ _ fun w1 hC => ?_
            have e90 : a9.eval (Operand.tmp 81) = v2 := by rw [ha9.eval]; rfl
            refine tailB ?_
            refine hKn _ _ ?_
            rw [e90]
            obtain ⟨g9, hg9, k0, k1, k2, k4, k5, k6, k7, k8, k9, k10, k11, k12, k13, k14, k15, k16, k17, k18, k19, k20, k21, k22, k23, k24, k25, k26, k27, k28, k29, k30, k31, k32, k33, k34, k35, k36, k37, k38, k39, k40, k82, k83, k84, k85, k86, k87, k3⟩ : ∃ g9, Is (a9.put (some 3) (v2)) 88 g9 ∧ g9 0 = .slice (some a) ss.length c ∧ g9 1 = undef ∧ g9 2 = .slice none 0 0 ∧ g9 4 = .int .i64 i ∧ g9 5 = .int .i64 (((i + d) + 1 : Nat) : Int) ∧ g9 6 = .bool true ∧ g9 7 = h9 7 ∧ g9 8 = h9 8 ∧ g9 9 = h9 9 ∧ g9 10 = h9 10 ∧ g9 11 = h9 11 ∧ g9 12 = h9 12 ∧ g9 13 = h9 13 ∧ g9 14 = h9 14 ∧ g9 15 = h9 15 ∧ g9 16 = h9 16 ∧ g9 17 = h9 17 ∧ g9 18 = h9 18 ∧ g9 19 = h9 19 ∧ g9 20 = h9 20 ∧ g9 21 = h9 21 ∧ g9 22 = h9 22 ∧ g9 23 = h9 23 ∧ g9 24 = h9 24 ∧ g9 25 = h9 25 ∧ g9 26 = h9 26 ∧ g9 27 = h9 27 ∧ g9 28 = h9 28 ∧ g9 29 = h9 29 ∧ g9 30 = h9 30 ∧ g9 31 = h9 31 ∧ g9 32 = h9 32 ∧ g9 33 = h9 33 ∧ g9 34 = h9 34 ∧ g9 35 = h9 35 ∧ g9 36 = h9 36 ∧ g9 37 = h9 37 ∧ g9 38 = h9 38 ∧ g9 39 = h9 39 ∧ g9 40 = h9 40 ∧ g9 82 = h9 82 ∧ g9 83 = h9 83 ∧ g9 84 = h9 84 ∧ g9 85 = h9 85 ∧ g9 86 = h9 86 ∧ g9 87 = undef ∧ g9 3 = v2 := ⟨_, ha9.put (d := 3) (by decide) _, rfl, rfl, rfl, rfl, rfl, rfl, rfl, rfl, rfl, rfl, rfl, rfl, rfl, rfl, rfl, rfl, rfl, rfl, rfl, rfl, rfl, rfl, rfl, rfl, rfl, rfl, rfl, rfl, rfl, rfl, rfl, rfl, rfl, rfl, rfl, rfl, rfl, rfl, rfl, rfl, rfl, rfl, rfl, rfl, rfl, rfl, rfl⟩
            have hw := hg9.whole
            rw [show ((List.range 88).map g9).toArray = #[g9 0, g9 1, g9 2, g9 3, g9 4, g9 5, g9 6, g9 7, g9 8, g9 9, g9 10, g9 11, g9 12, g9 13, g9 14, g9 15, g9 16, g9 17, g9 18, g9 19, g9 20, g9 21, g9 22, g9 23, g9 24, g9 25, g9 26, g9 27, g9 28, g9 29, g9 30, g9 31, g9 32, g9 33, g9 34, g9 35, g9 36, g9 37, g9 38, g9 39, g9 40, g9 41, g9 42, g9 43, g9 44, g9 45, g9 46, g9 47, g9 48, g9 49, g9 50, g9 51, g9 52, g9 53, g9 54, g9 55, g9 56, g9 57, g9 58, g9 59, g9 60, g9 61, g9 62, g9 63, g9 64, g9 65, g9 66, g9 67, g9 68, g9 69, g9 70, g9 71, g9 72, g9 73, g9 74, g9 75, g9 76, g9 77, g9 78, g9 79, g9 80, g9 81, g9 82, g9 83, g9 84, g9 85, g9 86, g9 87] from rfl] at hw
            rw [k0, k1, k2, k4, k5, k6, k7, k8, k9, k10, k11, k12, k13, k14, k15, k16, k17, k18, k19, k20, k21, k22, k23, k24, k25, k26, k27, k28, k29, k30, k31, k32, k33, k34, k35, k36, k37, k38, k39, k40, k82, k83, k84, k85, k86, k87, k3] at hw
            rw [show (a9.put (some 3) _) = _ from hw]
            have HR := hid hC
            clear hw hC hg9 k0 k1 k2 k4 k5 k6 k7 k8 k9 k10 k11 k12 k13 k14 k15 k16 k17 k18 k19 k20 k21 k22 k23 k24 k25 k26 k27 k28 k29 k30 k31 k32 k33 k34 k35 k36 k37 k38 k39 k40 k82 k83 k84 k85 k86 k87 k3 ha9 e90 hKQ KQ hKn LB LK LX LY LU LV LW hrun
            obtain rfl : w1 = W2 := HR.out
            clear HR HBJ HOJ HD HD1
            go_wp2_with fail
            go_roundw
            case rel => exact ⟨d, acc2 ++ [mv], by omega, by go_num, by simp; omega, HEN, (by rw [List.length_append]; exact HO2), HBW⟩
            case measure => simp [intOf]; omega
      · have hb : ((sg ss (ends ss i - 1)).k == 4) = false := by simp [hk4]
        have HREV1 := hid (show rev ss = acc ++ (mvOf ss (ends ss i - 1) :: backs ss i (ends ss i - 1 - i)) ++ revFrom ss ss.length (ends ss i) by rw [HREV.out]; unfold revSub lastOf; simp [hk4])
        clear hk4 HREV HRS HCL HKE
        generalize hkk : (sg ss (ends ss i - 1)).k = k4 at hb q0
        clear hkk
        generalize hee : ends ss i - 1 = l at HREV1
        have HREV := HREV1
        have HEE := hid hee
        have hl0 : l < ss.length := by omega
        have hil : i ≤ l := by omega
        have hbd : ends ss i = l + 1 := by omega
        have HBD := hid hbd
        clear hee hbd
        have hl1 : (0:Int) ≤ (l:Int) := by omega
        have hl2 : (l:Int) < (ss.length:Int) := by omega
        have HL := hid (segs_sg HS.out (show l < ss.length by omega)).2
        obtain ⟨v2, W2, hrun, hown2, hbel2⟩ := F2.append_seg (s := mvOf ss l) (ty := 22) (show w.heap.size ≤ wr.drew.heap.size from HBJ.out.size) (show wr.drew.ownsRow w.heap.size 32 6 u3 acc.length (flat acc) from HOJ.out) (by omega)
        have HO2 := hid hown2
        have HBW := hid (show Below w.heap.size w W2 from (HBJ.out.drew).trans hbel2)
        clear hown2 hbel2
        generalize hmv : mvOf ss l = mv at hrun HO2 HREV
        go_wp2_with fail
        (with_reducible refine (rends_any (some a) ss ss.length c i _ rfl (HS.out.next HBJ.out) hle hlt).mono ?_); rintro e w4 ⟨rfl, rfl⟩
        go_upto_region 9 with fail
        rename_i Kn hKn
        refine F2.wp_region_fan 14 [12, 13] (F2.Ex (F2.w3 wr.drew (wr.drew.alloc (.cells (cel mv) 32)) W2)) (by kernel_rfl) (by kernel_rfl) (by kernel_rfl) rfl ?_
        simp only [List.take_succ_cons, List.take_zero, List.drop_succ_cons, List.drop_zero]
        have LB := F2.ex_below (B := w.heap.size) (w := w) (a := wr.drew) (b := wr.drew.alloc (.cells (cel mv) 32)) (c := W2) (HBJ.out.drew) ((HBJ.out.drew).alloc HBJ.out.size _) HBW.out
        have LX := fun b w1 (h : F2.Ex (F2.w3 wr.drew (wr.drew.alloc (.cells (cel mv) 32)) W2) b w1) => ((HL.out.below (LB b w1 h) (by rw [add_block]; exact ha))).c1
        have LY := fun b w1 (h : F2.Ex (F2.w3 wr.drew (wr.drew.alloc (.cells (cel mv) 32)) W2) b w1) => ((HL.out.below (LB b w1 h) (by rw [add_block]; exact ha))).c2
        refine F2.WalksE.sound _ _ _ _ ?_ (((((((((Is.start _ (n := 88) rfl).pin 0 (v := .slice (some a) ss.length c) rfl).pin 1 (v := undef) rfl).pin 2 (v := .slice none 0 0) rfl).pin 3 (v := u3) rfl).pin 4 (v := .int .i64 i) rfl).pin 5 (v := .int .i64 l) (by have := HEE.out; refine congrArg (Value.int IntKind.i64) ?_; omega)).pin 6 (v := .bool false) rfl).pin 87 (v := undef) rfl)
        generalize (fun i => Array.getD _ i undef) = g0
        refine F2.walks_with fun KQ hKQ => ?_
        (refine F2.walks_one fun K hK => ?_); refine F2.st_pure rfl rfl (fun _ => rfl) ?_; refine hK _ ?_; clear hK K
        (refine F2.walks_one fun K hK => ?_); refine F2.st_pure rfl rfl (fun _ => rfl) ?_; refine hK _ ?_; clear hK K
        (refine F2.walks_one fun K hK => ?_); refine F2.st_pure rfl rfl (fun _ => rfl) ?_; refine hK _ ?_; clear hK K
        (refine F2.walks_one fun K hK => ?_); refine F2.st_pure rfl rfl (fun _ => run_index rfl rfl hl1 hl2) ?_; refine hK _ ?_; clear hK K
        (refine F2.walks_one fun K hK => ?_); refine F2.st_pure rfl rfl (fun _ => run_fld (by omega) rfl) ?_; refine hK _ ?_; clear hK K
        (refine F2.walks_one fun K hK => ?_); refine F2.st_loadFld LX rfl rfl rfl ?_; refine hK _ ?_; clear hK K
        (refine F2.walks_one fun K hK => ?_); refine F2.st_pure rfl rfl (fun _ => rfl) ?_; refine hK _ ?_; clear hK K
        (refine F2.walks_one fun K hK => ?_); refine F2.st_pure rfl rfl (fun _ => rfl) ?_; refine hK _ ?_; clear hK K
        (refine F2.walks_one fun K hK => ?_); refine F2.st_pure rfl rfl (fun _ => run_index rfl rfl hl1 hl2) ?_; refine hK _ ?_; clear hK K
        (refine F2.walks_one fun K hK => ?_); refine F2.st_pure rfl rfl (fun _ => run_fld (by omega) rfl) ?_; refine hK _ ?_; clear hK K
        (refine F2.walks_one fun K hK => ?_); refine F2.st_loadFld LY rfl rfl rfl ?_; refine hK _ ?_; clear hK K
        (refine F2.walks_one fun K hK => ?_); refine F2.st_pure (v := seg mv) rfl rfl (fun _ => (F2.run_build3 (c0 := undef) rfl rfl rfl).trans (by rw [← hmv])) ?_; refine hK _ ?_; clear hK K
        (refine F2.walks_one fun K hK => ?_); refine F2.st_turn (v := .slice (some ⟨wr.drew.heap.size, 0, none⟩) 1 1) 0 rfl (by decide) rfl (fun w2 h => ⟨_, by cases h; exact F2.run_lit (s := mv) rfl, rfl⟩) ?_; refine hK _ ?_; clear hK K
        (refine F2.walks_one fun K hK => ?_); refine F2.st_turn (v := v2) 1 rfl (by decide) rfl (fun w2 h => ⟨W2, by cases h; exact F2.run_append rfl rfl hrun, rfl⟩) ?_; refine hK _ ?_; clear hK K
        refine F2.walks_end fun a9 ha9 => hKQ _ fun w1 hC => ?_
        have e90 : a9.eval (Operand.tmp 40) = v2 := by rw [ha9.eval]; rfl
        refine tailB ?_
        refine hKn _ _ ?_
        rw [e90]
        obtain ⟨h9, hg9, k0, k1, k2, k4, k5, k6, k87, k3⟩ : ∃ g9, Is (a9.put (some 3) (v2)) 88 g9 ∧ g9 0 = .slice (some a) ss.length c ∧ g9 1 = undef ∧ g9 2 = .slice none 0 0 ∧ g9 4 = .int .i64 i ∧ g9 5 = .int .i64 l ∧ g9 6 = .bool false ∧ g9 87 = undef ∧ g9 3 = v2 := ⟨_, ha9.put (d := 3) (by decide) _, rfl, rfl, rfl, rfl, rfl, rfl, rfl, rfl⟩
        have hw := hg9.whole
        rw [show ((List.range 88).map h9).toArray = #[h9 0, h9 1, h9 2, h9 3, h9 4, h9 5, h9 6, h9 7, h9 8, h9 9, h9 10, h9 11, h9 12, h9 13, h9 14, h9 15, h9 16, h9 17, h9 18, h9 19, h9 20, h9 21, h9 22, h9 23, h9 24, h9 25, h9 26, h9 27, h9 28, h9 29, h9 30, h9 31, h9 32, h9 33, h9 34, h9 35, h9 36, h9 37, h9 38, h9 39, h9 40, h9 41, h9 42, h9 43, h9 44, h9 45, h9 46, h9 47, h9 48, h9 49, h9 50, h9 51, h9 52, h9 53, h9 54, h9 55, h9 56, h9 57, h9 58, h9 59, h9 60, h9 61, h9 62, h9 63, h9 64, h9 65, h9 66, h9 67, h9 68, h9 69, h9 70, h9 71, h9 72, h9 73, h9 74, h9 75, h9 76, h9 77, h9 78, h9 79, h9 80, h9 81, h9 82, h9 83, h9 84, h9 85, h9 86, h9 87] from rfl] at hw
        rw [k0, k1, k2, k4, k5, k6, k87, k3] at hw
        rw [show (a9.put (some 3) _) = _ from hw]
        have HR := hid hC
        clear hw hC hg9 k0 k1 k2 k4 k5 k6 k87 k3 ha9 e90 hKQ KQ hKn LB LX LY hrun
        obtain rfl : w1 = W2 := HR.out
        clear HR HBJ HOJ HL
        go_wp2_with fail
        go_loopw [3, 5] (fun s3 s5 wr => ∃ (d : Nat) (acc2 : List Sg), i + d ≤ l ∧ s5 = .int .i64 ((i + d : Nat) : Int) ∧ acc2.length + d = i + 1 + (l - i) ∧ Hid (acc ++ (mv :: backs ss i (l - i)) = acc2 ++ backs ss i d) ∧ Hid (wr.ownsRow w.heap.size 32 6 s3 acc2.length (flat acc2)) ∧ Hid (Below w.heap.size w wr)) (fun _ s5 _ => (intOf s5).toNat)
        case atStart => exact ⟨l - i, acc ++ [mv], by omega, by congr 1; omega, by simp; omega, hid (by simp), (by rw [List.length_append]; exact HO2), HBW⟩
        case round =>
          obtain ⟨d0, acc2, hd, rfl, hk, HE, HOJ, HBJ⟩ := hrel
          rcases Nat.eq_zero_or_pos d0 with hd0 | hd0
          · subst hd0
            have H1 := HOJ
            have H2 := HBJ
            have HF := hid (show rev ss = acc2 ++ revFrom ss ss.length (ends ss i) by rw [HREV.out, ← show acc ++ mv :: backs ss i (l - i) = acc2 from HE.out.trans (List.append_nil _)]; try simp)
            go_wp2_with (first | (go_at_call 50; refine (rends_any (some a) ss ss.length c i _ rfl (HS0.out.next H2.out) (by omega) hlt).mono ?_; rintro e w4 ⟨rfl, rfl⟩))
            go_roundw
            case rel => exact ⟨ends ss i, acc2, by have := HBD.out; omega, HE2.out, hid (ends_move ss i), rfl, HF, H1, H2⟩
            case measure => have := HE1.out; have := HE2.out; simp [intOf]; omega
          · obtain ⟨d, rfl⟩ : ∃ d, d0 = d + 1 := ⟨d0 - 1, by omega⟩
            have hd1 : (0:Int) ≤ ((i + d : Nat):Int) := by omega
            have hd2 : ((i + d : Nat):Int) < (ss.length:Int) := by omega
            have hd3 : (0:Int) ≤ ((i + d + 1 : Nat):Int) := by omega
            have hd4 : ((i + d + 1 : Nat):Int) < (ss.length:Int) := by omega
            have HD := hid (segs_sg HS0.out (show i + d < ss.length by omega)).2
            have HD1 := hid (segs_sg HS0.out (show i + d + 1 < ss.length by omega)).2
            obtain ⟨v2, W2, hrun, hown2, hbel2⟩ := F2.append_seg (s := ⟨(sg ss (i + d + 1)).k, (sg ss (i + d)).x, (sg ss (i + d)).y, (sg ss (i + d + 1)).u, (sg ss (i + d + 1)).v, (sg ss (i + d + 1)).w⟩) (ty := 22) (show w.heap.size ≤ wr.drew.heap.size from HBJ.out.size) (show wr.drew.ownsRow w.heap.size 32 6 u3 acc2.length (flat acc2) from HOJ.out) (by omega)
            have HEN := hid (show acc ++ (mv :: backs ss i (l - i)) = (acc2 ++ [⟨(sg ss (i + d + 1)).k, (sg ss (i + d)).x, (sg ss (i + d)).y, (sg ss (i + d + 1)).u, (sg ss (i + d + 1)).v, (sg ss (i + d + 1)).w⟩]) ++ backs ss i d by rw [HE.out, List.append_assoc, backs_succ]; rfl)
            have HO2 := hid hown2
            have HBW := hid (show Below w.heap.size w W2 from (HBJ.out.drew).trans hbel2)
            clear hown2 hbel2 HE
            generalize hmv : (⟨(sg ss (i + d + 1)).k, (sg ss (i + d)).x, (sg ss (i + d)).y, (sg ss (i + d + 1)).u, (sg ss (i + d + 1)).v, (sg ss (i + d + 1)).w⟩ : Sg) = mv at hrun HO2 HEN
            go_upto_region 12 with fail
            rename_i Kn hKn
            refine F2.wp_region_fan 36 [34, 35] (F2.Ex (F2.w3 wr.drew (wr.drew.alloc (.cells (cel mv) 32)) W2)) (by kernel_rfl) (by kernel_rfl) (by kernel_rfl) rfl ?_
            simp only [List.take_succ_cons, List.take_zero, List.drop_succ_cons, List.drop_zero]
            have LB := F2.ex_below (B := w.heap.size) (w := w) (a := wr.drew) (b := wr.drew.alloc (.cells (cel mv) 32)) (c := W2) (HBJ.out.drew) ((HBJ.out.drew).alloc HBJ.out.size _) HBW.out
            have LK := fun b w1 (h : F2.Ex (F2.w3 wr.drew (wr.drew.alloc (.cells (cel mv) 32)) W2) b w1) => ((HD1.out.below (LB b w1 h) (by rw [add_block]; exact ha))).c0
            have LX := fun b w1 (h : F2.Ex (F2.w3 wr.drew (wr.drew.alloc (.cells (cel mv) 32)) W2) b w1) => ((HD.out.below (LB b w1 h) (by rw [add_block]; exact ha))).c1
            have LY := fun b w1 (h : F2.Ex (F2.w3 wr.drew (wr.drew.alloc (.cells (cel mv) 32)) W2) b w1) => ((HD.out.below (LB b w1 h) (by rw [add_block]; exact ha))).c2
            have LU := fun b w1 (h : F2.Ex (F2.w3 wr.drew (wr.drew.alloc (.cells (cel mv) 32)) W2) b w1) => ((HD1.out.below (LB b w1 h) (by rw [add_block]; exact ha))).c3
            have LV := fun b w1 (h : F2.Ex (F2.w3 wr.drew (wr.drew.alloc (.cells (cel mv) 32)) W2) b w1) => ((HD1.out.below (LB b w1 h) (by rw [add_block]; exact ha))).c4
            have LW := fun b w1 (h : F2.Ex (F2.w3 wr.drew (wr.drew.alloc (.cells (cel mv) 32)) W2) b w1) => ((HD1.out.below (LB b w1 h) (by rw [add_block]; exact ha))).c5
            refine F2.WalksE.sound _ _ _ _ ?_ ((((((((((((((((((((((((((((((((((((((((((((((((Is.start _ (n := 88) rfl).pin 0 (v := .slice (some a) ss.length c) rfl).pin 1 (v := undef) rfl).pin 2 (v := .slice none 0 0) rfl).pin 3 (v := u3) rfl).pin 4 (v := .int .i64 i) rfl).pin 5 (v := .int .i64 (((i + d) + 1 : Nat) : Int)) rfl).pin 6 (v := .bool false) rfl).pin 7 (v := h9 7) rfl).pin 8 (v := h9 8) rfl).pin 9 (v := h9 9) rfl).pin 10 (v := h9 10) rfl).pin 11 (v := h9 11) rfl).pin 12 (v := h9 12) rfl).pin 13 (v := h9 13) rfl).pin 14 (v := h9 14) rfl).pin 15 (v := h9 15) rfl).pin 16 (v := h9 16) rfl).pin 17 (v := h9 17) rfl).pin 18 (v := h9 18) rfl).pin 19 (v := h9 19) rfl).pin 20 (v := h9 20) rfl).pin 21 (v := h9 21) rfl).pin 22 (v := h9 22) rfl).pin 23 (v := h9 23) rfl).pin 24 (v := h9 24) rfl).pin 25 (v := h9 25) rfl).pin 26 (v := h9 26) rfl).pin 27 (v := h9 27) rfl).pin 28 (v := h9 28) rfl).pin 29 (v := h9 29) rfl).pin 30 (v := h9 30) rfl).pin 31 (v := h9 31) rfl).pin 32 (v := h9 32) rfl).pin 33 (v := h9 33) rfl).pin 34 (v := h9 34) rfl).pin 35 (v := h9 35) rfl).pin 36 (v := h9 36) rfl).pin 37 (v := h9 37) rfl).pin 38 (v := h9 38) rfl).pin 39 (v := h9 39) rfl).pin 40 (v := h9 40) rfl).pin 82 (v := h9 82) rfl).pin 83 (v := h9 83) rfl).pin 84 (v := h9 84) rfl).pin 85 (v := h9 85) rfl).pin 86 (v := h9 86) rfl).pin 87 (v := undef) rfl)
            generalize (fun i => Array.getD _ i undef) = g0
            refine F2.walks_with fun KQ hKQ => ?_
            (refine F2.walks_one fun K hK => ?_); refine F2.st_pure rfl rfl (fun _ => rfl) ?_; refine hK _ ?_; clear hK K
            (refine F2.walks_one fun K hK => ?_); refine F2.st_pure rfl rfl (fun _ => rfl) ?_; refine hK _ ?_; clear hK K
            (refine F2.walks_one fun K hK => ?_); refine F2.st_pure rfl rfl (fun _ => rfl) ?_; refine hK _ ?_; clear hK K
            (refine F2.walks_one fun K hK => ?_); refine F2.st_pure rfl rfl (fun _ => run_index rfl rfl hd3 hd4) ?_; refine hK _ ?_; clear hK K
            (refine F2.walks_one fun K hK => ?_); refine F2.st_pure rfl rfl (fun _ => run_fld (by omega) rfl) ?_; refine hK _ ?_; clear hK K
            (refine F2.walks_one fun K hK => ?_); refine F2.st_loadFld LK rfl rfl rfl ?_; refine hK _ ?_; clear hK K
            (refine F2.walks_one fun K hK => ?_); refine F2.st_pure rfl rfl (fun _ => rfl) ?_; refine hK _ ?_; clear hK K
            (refine F2.walks_one fun K hK => ?_); refine F2.st_pure rfl rfl (fun _ => rfl) ?_; refine hK _ ?_; clear hK K
            (refine F2.walks_one fun K hK => ?_); refine F2.st_pure (v := .int .i64 ((i + d : Nat) : Int)) rfl rfl (fun _ => (run_sub1 rfl rfl (by omega) (by omega)).trans (by congr 3; omega)) ?_; refine hK _ ?_; clear hK K
            (refine F2.walks_one fun K hK => ?_); refine F2.st_pure rfl rfl (fun _ => run_index rfl rfl hd1 hd2) ?_; refine hK _ ?_; clear hK K
            (refine F2.walks_one fun K hK => ?_); refine F2.st_pure rfl rfl (fun _ => run_fld (by omega) rfl) ?_; refine hK _ ?_; clear hK K
            (refine F2.walks_one fun K hK => ?_); refine F2.st_loadFld LX rfl rfl rfl ?_; refine hK _ ?_; clear hK K
            (refine F2.walks_one fun K hK => ?_); refine F2.st_pure rfl rfl (fun _ => rfl) ?_; refine hK _ ?_; clear hK K
            (refine F2.walks_one fun K hK => ?_); refine F2.st_pure rfl rfl (fun _ => rfl) ?_; refine hK _ ?_; clear hK K
            (refine F2.walks_one fun K hK => ?_); refine F2.st_pure (v := .int .i64 ((i + d : Nat) : Int)) rfl rfl (fun _ => (run_sub1 rfl rfl (by omega) (by omega)).trans (by congr 3; omega)) ?_; refine hK _ ?_; clear hK K
            (refine F2.walks_one fun K hK => ?_); refine F2.st_pure rfl rfl (fun _ => run_index rfl rfl hd1 hd2) ?_; refine hK _ ?_; clear hK K
            (refine F2.walks_one fun K hK => ?_); refine F2.st_pure rfl rfl (fun _ => run_fld (by omega) rfl) ?_; refine hK _ ?_; clear hK K
            (refine F2.walks_one fun K hK => ?_); refine F2.st_loadFld LY rfl rfl rfl ?_; refine hK _ ?_; clear hK K
            (refine F2.walks_one fun K hK => ?_); refine F2.st_pure rfl rfl (fun _ => rfl) ?_; refine hK _ ?_; clear hK K
            (refine F2.walks_one fun K hK => ?_); refine F2.st_pure rfl rfl (fun _ => rfl) ?_; refine hK _ ?_; clear hK K
            (refine F2.walks_one fun K hK => ?_); refine F2.st_pure rfl rfl (fun _ => run_index rfl rfl hd3 hd4) ?_; refine hK _ ?_; clear hK K
            (refine F2.walks_one fun K hK => ?_); refine F2.st_pure rfl rfl (fun _ => run_fld (by omega) rfl) ?_; refine hK _ ?_; clear hK K
            (refine F2.walks_one fun K hK => ?_); refine F2.st_loadFld LU rfl rfl rfl ?_; refine hK _ ?_; clear hK K
            (refine F2.walks_one fun K hK => ?_); refine F2.st_pure rfl rfl (fun _ => rfl) ?_; refine hK _ ?_; clear hK K
            (refine F2.walks_one fun K hK => ?_); refine F2.st_pure rfl rfl (fun _ => rfl) ?_; refine hK _ ?_; clear hK K
            (refine F2.walks_one fun K hK => ?_); refine F2.st_pure rfl rfl (fun _ => run_index rfl rfl hd3 hd4) ?_; refine hK _ ?_; clear hK K
            (refine F2.walks_one fun K hK => ?_); refine F2.st_pure rfl rfl (fun _ => run_fld (by omega) rfl) ?_; refine hK _ ?_; clear hK K
            (refine F2.walks_one fun K hK => ?_); refine F2.st_loadFld LV rfl rfl rfl ?_; refine hK _ ?_; clear hK K
            (refine F2.walks_one fun K hK => ?_); refine F2.st_pure rfl rfl (fun _ => rfl) ?_; refine hK _ ?_; clear hK K
            (refine F2.walks_one fun K hK => ?_); refine F2.st_pure rfl rfl (fun _ => rfl) ?_; refine hK _ ?_; clear hK K
            (refine F2.walks_one fun K hK => ?_); refine F2.st_pure rfl rfl (fun _ => run_index rfl rfl hd3 hd4) ?_; refine hK _ ?_; clear hK K
            (refine F2.walks_one fun K hK => ?_); refine F2.st_pure rfl rfl (fun _ => run_fld (by omega) rfl) ?_; refine hK _ ?_; clear hK K
            (refine F2.walks_one fun K hK => ?_); refine F2.st_loadFld LW rfl rfl rfl ?_; refine hK _ ?_; clear hK K
            (refine F2.walks_one fun K hK => ?_); refine F2.st_pure (v := seg mv) rfl rfl (fun _ => (F2.run_build6 rfl rfl rfl rfl rfl rfl).trans (by rw [← hmv])) ?_; refine hK _ ?_; clear hK K
            (refine F2.walks_one fun K hK => ?_); refine F2.st_turn (v := .slice (some ⟨wr.drew.heap.size, 0, none⟩) 1 1) 0 rfl (by decide) rfl (fun w2 h => ⟨_, by cases h; exact F2.run_lit (s := mv) rfl, rfl⟩) ?_; refine hK _ ?_; clear hK K
            (refine F2.walks_one fun K hK => ?_); refine F2.st_turn (v := v2) 1 rfl (by decide) rfl (fun w2 h => ⟨W2, by cases h; exact F2.run_append rfl rfl hrun, rfl⟩) ?_; refine hK _ ?_; clear hK K
            refine F2.walks_end fun a9 ha9 => hKQ _ fun w1 hC => ?_
            have e90 : a9.eval (Operand.tmp 81) = v2 := by rw [ha9.eval]; rfl
            refine tailB ?_
            refine hKn _ _ ?_
            rw [e90]
            obtain ⟨g9, hg9, k0, k1, k2, k4, k5, k6, k7, k8, k9, k10, k11, k12, k13, k14, k15, k16, k17, k18, k19, k20, k21, k22, k23, k24, k25, k26, k27, k28, k29, k30, k31, k32, k33, k34, k35, k36, k37, k38, k39, k40, k82, k83, k84, k85, k86, k87, k3⟩ : ∃ g9, Is (a9.put (some 3) (v2)) 88 g9 ∧ g9 0 = .slice (some a) ss.length c ∧ g9 1 = undef ∧ g9 2 = .slice none 0 0 ∧ g9 4 = .int .i64 i ∧ g9 5 = .int .i64 (((i + d) + 1 : Nat) : Int) ∧ g9 6 = .bool false ∧ g9 7 = h9 7 ∧ g9 8 = h9 8 ∧ g9 9 = h9 9 ∧ g9 10 = h9 10 ∧ g9 11 = h9 11 ∧ g9 12 = h9 12 ∧ g9 13 = h9 13 ∧ g9 14 = h9 14 ∧ g9 15 = h9 15 ∧ g9 16 = h9 16 ∧ g9 17 = h9 17 ∧ g9 18 = h9 18 ∧ g9 19 = h9 19 ∧ g9 20 = h9 20 ∧ g9 21 = h9 21 ∧ g9 22 = h9 22 ∧ g9 23 = h9 23 ∧ g9 24 = h9 24 ∧ g9 25 = h9 25 ∧ g9 26 = h9 26 ∧ g9 27 = h9 27 ∧ g9 28 = h9 28 ∧ g9 29 = h9 29 ∧ g9 30 = h9 30 ∧ g9 31 = h9 31 ∧ g9 32 = h9 32 ∧ g9 33 = h9 33 ∧ g9 34 = h9 34 ∧ g9 35 = h9 35 ∧ g9 36 = h9 36 ∧ g9 37 = h9 37 ∧ g9 38 = h9 38 ∧ g9 39 = h9 39 ∧ g9 40 = h9 40 ∧ g9 82 = h9 82 ∧ g9 83 = h9 83 ∧ g9 84 = h9 84 ∧ g9 85 = h9 85 ∧ g9 86 = h9 86 ∧ g9 87 = undef ∧ g9 3 = v2 := ⟨_, ha9.put (d := 3) (by decide) _, rfl, rfl, rfl, rfl, rfl, rfl, rfl, rfl, rfl, rfl, rfl, rfl, rfl, rfl, rfl, rfl, rfl, rfl, rfl, rfl, rfl, rfl, rfl, rfl, rfl, rfl, rfl, rfl, rfl, rfl, rfl, rfl, rfl, rfl, rfl, rfl, rfl, rfl, rfl, rfl, rfl, rfl, rfl, rfl, rfl, rfl, rfl⟩
            have hw := hg9.whole
            rw [show ((List.range 88).map g9).toArray = #[g9 0, g9 1, g9 2, g9 3, g9 4, g9 5, g9 6, g9 7, g9 8, g9 9, g9 10, g9 11, g9 12, g9 13, g9 14, g9 15, g9 16, g9 17, g9 18, g9 19, g9 20, g9 21, g9 22, g9 23, g9 24, g9 25, g9 26, g9 27, g9 28, g9 29, g9 30, g9 31, g9 32, g9 33, g9 34, g9 35, g9 36, g9 37, g9 38, g9 39, g9 40, g9 41, g9 42, g9 43, g9 44, g9 45, g9 46, g9 47, g9 48, g9 49, g9 50, g9 51, g9 52, g9 53, g9 54, g9 55, g9 56, g9 57, g9 58, g9 59, g9 60, g9 61, g9 62, g9 63, g9 64, g9 65, g9 66, g9 67, g9 68, g9 69, g9 70, g9 71, g9 72, g9 73, g9 74, g9 75, g9 76, g9 77, g9 78, g9 79, g9 80, g9 81, g9 82, g9 83, g9 84, g9 85, g9 86, g9 87] from rfl] at hw
            rw [k0, k1, k2, k4, k5, k6, k7, k8, k9, k10, k11, k12, k13, k14, k15, k16, k17, k18, k19, k20, k21, k22, k23, k24, k25, k26, k27, k28, k29, k30, k31, k32, k33, k34, k35, k36, k37, k38, k39, k40, k82, k83, k84, k85, k86, k87, k3] at hw
            rw [show (a9.put (some 3) _) = _ from hw]
            have HR := hid hC
            clear hw hC hg9 k0 k1 k2 k4 k5 k6 k7 k8 k9 k10 k11 k12 k13 k14 k15 k16 k17 k18 k19 k20 k21 k22 k23 k24 k25 k26 k27 k28 k29 k30 k31 k32 k33 k34 k35 k36 k37 k38 k39 k40 k82 k83 k84 k85 k86 k87 k3 ha9 e90 hKQ KQ hKn LB LK LX LY LU LV LW hrun
            obtain rfl : w1 = W2 := HR.out
            clear HR HBJ HOJ HD HD1
            go_wp2_with fail
            go_roundw
            case rel => exact ⟨d, acc2 ++ [mv], by omega, by go_num, by simp; omega, HEN, (by rw [List.length_append]; exact HO2), HBW⟩
            case measure => simp [intOf]; omega
    · have HF := hid (show rev ss = acc by rw [HREV.out, revFrom_end ss _ _ (by omega), List.append_nil])
      go_wp2_with fail
      go_ret
      refine ⟨_, rfl, ?_, HBJ.out⟩
      rw [HF.out]
      exact HOJ.out

end Go.Proofs.YtbdpjdhnmllkiaaDoor
