/- What Flat of the reference returns. -/
import Derived.Test.YtcdedefhofkbhaaRCv
namespace Go.Proofs.Ytcdedefhofkbhaa
open Go Go.RowKit
set_option linter.unusedVariables false
set_option linter.unusedSimpArgs false

theorem enters_rat : Enters Try.prog 41 := enters_of Try.func41 (by kernel_rfl) rfl
theorem dist_is {x r : Int} (h : r = max x (-x)) (w : World) (h1 : -4611686018427387904 ≤ x) (h2 : x ≤ 4611686018427387904) :
    Calls Try.prog 51 #[.int .i64 x] w fun e w' => e = .returned (.int .i64 r) ∧ w = w' := by
  subst h; exact dist_any x w h1 h2

set_option maxHeartbeats 6400000 in
set_option maxRecDepth 100000 in
theorem rflat_any (p : P2) (s : Sg) (n : Nat) (w : World) (hc : InC (cuOf p s)) (h1 : 1 ≤ n) (h2 : n ≤ 512) :
    Calls Try.prog 40 #[ptv p, seg s, .int .i64 n] w fun e w' => e = .returned (.bool ((cuOf p s).flat n)) ∧ Below w.heap.size w w' := by
  have HC := hid hc
  have IK := fun k (hk : k ≤ n) => hid (inK hc.w h1 (show n ≤ 1024 by omega) hk)
  have IM := fun k (hk : k < n) => hid (inK hc.w (show 1 ≤ 2 * n by omega) (show 2 * n ≤ 1024 by omega) (show 2 * k + 1 ≤ 2 * n by omega))
  have FY := hid (fun h => @flat_yes (cuOf p s) n h)
  have FN := hid (fun k hk h => @flat_no (cuOf p s) n k hk h)
  clear hc
  obtain ⟨b3, hb3⟩ : ∃ b, b = w.heap.size := ⟨_, rfl⟩
  obtain ⟨b4, hb4⟩ : ∃ b, b = w.heap.size + 1 := ⟨_, rfl⟩
  obtain ⟨W, hW⟩ : ∃ W, W = (w.alloc (.cells (pcel p) 23)).alloc (.cells (cel s) 25) := ⟨_, rfl⟩
  have HP := hid (show Var W b3 (pcel p) 23 by rw [hW, hb3]; exact (Var.new w _ _ _ rfl).alloc _)
  have HS := hid (show Var W b4 (cel s) 25 by rw [hW, hb4]; exact Var.new (w.alloc _) _ _ _ (by simp))
  have HB := hid (show Below w.heap.size w W by rw [hW]; exact below_alloc (below_alloc (Below.refl _ w) _) _)
  go_enter Try.func40, Try.ntmps40
  go_upto_region 1 with fail
  rw [← hW, ← hb4, ← hb3]
  clear hW hb3 hb4
  go_wp2_with fail
  go_loopw [7] (fun s7 wr => ∃ k : Nat, k ≤ n ∧ s7 = .int .i64 k ∧ Hid (∀ j, j < k → nearK (cuOf p s) n j = true) ∧ Hid (Var wr b3 (pcel p) 23) ∧ Hid (Var wr b4 (cel s) 25) ∧ Hid (Below w.heap.size w wr)) (fun s7 _ => n - (intOf s7).toNat)
  case atStart => exact ⟨0, Nat.zero_le _, rfl, hid (fun j hj => by omega), HP, HS, HB⟩
  case round =>
    obtain ⟨k, hk, rfl, HF, HV, HT, HB⟩ := hrel
    clear HP HS
    by_cases hlt : k < n
    · go_upto_region 4 with fail
      have I0 : InK s.w (k : Int) (n : Int) := (IK k (Nat.le_of_lt hlt)).out
      have I1 : InK s.w ((k : Int) + 1) (n : Int) := (IK (k + 1) hlt).out
      have I2 : InK s.w (2 * (k : Int) + 1) (2 * (n : Int)) := (IM k hlt).out
      have g1 : Rg ((k : Int) + 1) := by unfold Rg; omega
      have g2 : Rg (2 * (k : Int)) := by unfold Rg; omega
      have g3 : Rg (2 * (k : Int) + 1) := by unfold Rg; omega
      have g4 : Rg (2 * (n : Int)) := by unfold Rg; omega
      have LP := fun w1 (h : Below wr.heap.size wr w1) => HV.out.next h
      have LS := fun w1 (h : Below wr.heap.size wr w1) => HT.out.next h
      rename_i Kn hKn
      refine Iv.wp_region_inv (n := 140) (TJ [some 19, some 20, some 21, some 22, some 23, some 24, some 25, some 26, some 27, some 28, some 29, some 30, some 31, some 32, some 33, some 34, some 35, some 36, some 37, none, none, none, none, none, none]
          [ptv p, seg s, .int .i64 (k : Int), .int .i64 (n : Int), ptv ((cuOf p s).at ((k : Int)) ((n : Int))), ptv p, seg s, .int .i64 (k : Int), .int .i64 ((k : Int) + 1), .int .i64 (n : Int), ptv ((cuOf p s).at ((k : Int) + 1) ((n : Int))), ptv p, seg s, .int .i64 (k : Int), .int .i64 (2 * (k : Int)), .int .i64 (2 * (k : Int) + 1), .int .i64 (n : Int), .int .i64 (2 * (n : Int)), ptv ((cuOf p s).at (2 * (k : Int) + 1) (2 * (n : Int))), undef, undef, undef, undef, undef, undef]
          [(2, .int .i64 (n : Int)), (3, .pointer (some ⟨b3, 0, none⟩)), (4, .pointer (some ⟨b4, 0, none⟩)), (5, undef), (7, .int .i64 (k : Int)), (0, ptv p), (1, seg s)] (MB wr [⟨19, 22, 8, pcel ((cuOf p s).at ((k : Int)) ((n : Int))), 23⟩, ⟨20, 23, 9, pcel ((cuOf p s).at ((k : Int) + 1) ((n : Int))), 23⟩, ⟨21, 24, 10, pcel ((cuOf p s).at (2 * (k : Int) + 1) (2 * (n : Int))), 23⟩])) _ (by kernel_rfl) (by kernel_rfl) (Is.start _ rfl) ?_ ?_ ?_
      · refine ⟨fun i d _ h => (by cases h), fun q hq => ?_, MB.start wr _ _⟩
        simp only [List.mem_cons, List.not_mem_nil, or_false] at hq
        rcases hq with rfl | rfl | rfl | rfl | rfl | rfl | rfl
        all_goals rfl
      · exact ⟨nb_val rfl rfl rfl rfl rfl fun L f wx hL hdep H => run_loadPt (H.x (3, .pointer (some ⟨b3, 0, none⟩)) (by simp)) (LP wx H.m.b),
    nb_val rfl rfl rfl rfl rfl fun L f wx hL hdep H => run_loadSegV (H.x (4, .pointer (some ⟨b4, 0, none⟩)) (by simp)) (LS wx H.m.b),
    nb_val rfl rfl rfl rfl rfl fun L f wx hL hdep H => congrArg (fun v => Result.ok (Next.value v) wx) (H.x (7, .int .i64 (k : Int)) (by simp)),
    nb_val rfl rfl rfl rfl rfl fun L f wx hL hdep H => congrArg (fun v => Result.ok (Next.value v) wx) (H.x (2, .int .i64 (n : Int)) (by simp)),
    nb_call rfl rfl rfl rfl rfl fun L f wx hL hdep H => ⟨_, (run_call4 rfl enters_rat).trans (by rw [show env f (.tmp 19) = ptv p from (H.t 0 19 rfl (hdep ⟨0, .data⟩ (by simp) rfl)), show env f (.tmp 20) = seg s from (H.t 1 20 rfl (hdep ⟨1, .data⟩ (by simp) rfl)), show env f (.tmp 21) = .int .i64 (k : Int) from (H.t 2 21 rfl (hdep ⟨2, .data⟩ (by simp) rfl)), show env f (.tmp 22) = .int .i64 (n : Int) from (H.t 3 22 rfl (hdep ⟨3, .data⟩ (by simp) rfl))]), rat_any p s ((k : Int)) ((n : Int)) wx HC.out I0⟩,
    nb_val rfl rfl rfl rfl rfl fun L f wx hL hdep H => run_loadPt (H.x (3, .pointer (some ⟨b3, 0, none⟩)) (by simp)) (LP wx H.m.b),
    nb_val rfl rfl rfl rfl rfl fun L f wx hL hdep H => run_loadSegV (H.x (4, .pointer (some ⟨b4, 0, none⟩)) (by simp)) (LS wx H.m.b),
    nb_val rfl rfl rfl rfl rfl fun L f wx hL hdep H => congrArg (fun v => Result.ok (Next.value v) wx) (H.x (7, .int .i64 (k : Int)) (by simp)),
    nb_val rfl rfl rfl rfl rfl fun L f wx hL hdep H => run_add (H.t 7 26 rfl (hdep ⟨7, .data⟩ (by simp) rfl)) rfl g1,
    nb_val rfl rfl rfl rfl rfl fun L f wx hL hdep H => congrArg (fun v => Result.ok (Next.value v) wx) (H.x (2, .int .i64 (n : Int)) (by simp)),
    nb_call rfl rfl rfl rfl rfl fun L f wx hL hdep H => ⟨_, (run_call4 rfl enters_rat).trans (by rw [show env f (.tmp 24) = ptv p from (H.t 5 24 rfl (hdep ⟨5, .data⟩ (by simp) rfl)), show env f (.tmp 25) = seg s from (H.t 6 25 rfl (hdep ⟨6, .data⟩ (by simp) rfl)), show env f (.tmp 27) = .int .i64 ((k : Int) + 1) from (H.t 8 27 rfl (hdep ⟨8, .data⟩ (by simp) rfl)), show env f (.tmp 28) = .int .i64 (n : Int) from (H.t 9 28 rfl (hdep ⟨9, .data⟩ (by simp) rfl))]), rat_any p s ((k : Int) + 1) ((n : Int)) wx HC.out I1⟩,
    nb_val rfl rfl rfl rfl rfl fun L f wx hL hdep H => run_loadPt (H.x (3, .pointer (some ⟨b3, 0, none⟩)) (by simp)) (LP wx H.m.b),
    nb_val rfl rfl rfl rfl rfl fun L f wx hL hdep H => run_loadSegV (H.x (4, .pointer (some ⟨b4, 0, none⟩)) (by simp)) (LS wx H.m.b),
    nb_val rfl rfl rfl rfl rfl fun L f wx hL hdep H => congrArg (fun v => Result.ok (Next.value v) wx) (H.x (7, .int .i64 (k : Int)) (by simp)),
    nb_val rfl rfl rfl rfl rfl fun L f wx hL hdep H => run_mul rfl (H.t 13 32 rfl (hdep ⟨13, .data⟩ (by simp) rfl)) g2,
    nb_val rfl rfl rfl rfl rfl fun L f wx hL hdep H => run_add (H.t 14 33 rfl (hdep ⟨14, .data⟩ (by simp) rfl)) rfl g3,
    nb_val rfl rfl rfl rfl rfl fun L f wx hL hdep H => congrArg (fun v => Result.ok (Next.value v) wx) (H.x (2, .int .i64 (n : Int)) (by simp)),
    nb_val rfl rfl rfl rfl rfl fun L f wx hL hdep H => run_mul rfl (H.t 16 35 rfl (hdep ⟨16, .data⟩ (by simp) rfl)) g4,
    nb_call rfl rfl rfl rfl rfl fun L f wx hL hdep H => ⟨_, (run_call4 rfl enters_rat).trans (by rw [show env f (.tmp 30) = ptv p from (H.t 11 30 rfl (hdep ⟨11, .data⟩ (by simp) rfl)), show env f (.tmp 31) = seg s from (H.t 12 31 rfl (hdep ⟨12, .data⟩ (by simp) rfl)), show env f (.tmp 34) = .int .i64 (2 * (k : Int) + 1) from (H.t 15 34 rfl (hdep ⟨15, .data⟩ (by simp) rfl)), show env f (.tmp 36) = .int .i64 (2 * (n : Int)) from (H.t 17 36 rfl (hdep ⟨17, .data⟩ (by simp) rfl))]), rat_any p s (2 * (k : Int) + 1) (2 * (n : Int)) wx HC.out I2⟩,
    nb_new (q := ⟨19, 22, 8, pcel ((cuOf p s).at ((k : Int)) ((n : Int))), 23⟩) (c := #[.int .i64 0, .int .i64 0]) (by simp) (like_cons (.inl rfl) (like_cons (.inr rfl) (like_cons (.inr rfl) (like_nil _)))) (ne_of_beq rfl) rfl rfl rfl rfl rfl rfl fun f w => run_allocPt,
    nb_new (q := ⟨20, 23, 9, pcel ((cuOf p s).at ((k : Int) + 1) ((n : Int))), 23⟩) (c := #[.int .i64 0, .int .i64 0]) (by simp) (like_cons (.inr rfl) (like_cons (.inl rfl) (like_cons (.inr rfl) (like_nil _)))) (ne_of_beq rfl) rfl rfl rfl rfl rfl rfl fun f w => run_allocPt,
    nb_new (q := ⟨21, 24, 10, pcel ((cuOf p s).at (2 * (k : Int) + 1) (2 * (n : Int))), 23⟩) (c := #[.int .i64 0, .int .i64 0]) (by simp) (like_cons (.inr rfl) (like_cons (.inr rfl) (like_cons (.inl rfl) (like_nil _)))) (ne_of_beq rfl) rfl rfl rfl rfl rfl rfl fun f w => run_allocPt,
    nb_store (q := ⟨19, 22, 8, pcel ((cuOf p s).at ((k : Int)) ((n : Int))), 23⟩) (by simp) (like_cons (.inl rfl) (like_cons (.inr rfl) (like_cons (.inr rfl) (like_nil _)))) (ne_of_beq rfl) rfl rfl ⟨⟨19, .data⟩, by simp, rfl, rfl⟩ fun L f wx m c0 hdep H hp hm hv hs => by
      obtain ⟨u0, u1, rfl⟩ := size2 hs
      exact ⟨_, run_storePt hp (H.t 4 23 rfl (hdep ⟨4, .data⟩ (by simp) rfl)) hv, below_set2 H.m.b hm, hv.set2, same2⟩,
    nb_store (q := ⟨20, 23, 9, pcel ((cuOf p s).at ((k : Int) + 1) ((n : Int))), 23⟩) (by simp) (like_cons (.inr rfl) (like_cons (.inl rfl) (like_cons (.inr rfl) (like_nil _)))) (ne_of_beq rfl) rfl rfl ⟨⟨20, .data⟩, by simp, rfl, rfl⟩ fun L f wx m c0 hdep H hp hm hv hs => by
      obtain ⟨u0, u1, rfl⟩ := size2 hs
      exact ⟨_, run_storePt hp (H.t 10 29 rfl (hdep ⟨10, .data⟩ (by simp) rfl)) hv, below_set2 H.m.b hm, hv.set2, same2⟩,
    nb_store (q := ⟨21, 24, 10, pcel ((cuOf p s).at (2 * (k : Int) + 1) (2 * (n : Int))), 23⟩) (by simp) (like_cons (.inr rfl) (like_cons (.inr rfl) (like_cons (.inl rfl) (like_nil _)))) (ne_of_beq rfl) rfl rfl ⟨⟨21, .data⟩, by simp, rfl, rfl⟩ fun L f wx m c0 hdep H hp hm hv hs => by
      obtain ⟨u0, u1, rfl⟩ := size2 hs
      exact ⟨_, run_storePt hp (H.t 18 37 rfl (hdep ⟨18, .data⟩ (by simp) rfl)) hv, below_set2 H.m.b hm, hv.set2, same2⟩, trivial⟩
      intro L f act w4 hall H ha
      refine hKn _ _ ?_
      have k0 : f 0 = ptv p := H.x (0, ptv p) (by simp)
      have k1 : f 1 = seg s := H.x (1, seg s) (by simp)
      have k2 : f 2 = .int .i64 (n : Int) := H.x (2, .int .i64 (n : Int)) (by simp)
      have k3 : f 3 = .pointer (some ⟨b3, 0, none⟩) := H.x (3, .pointer (some ⟨b3, 0, none⟩)) (by simp)
      have k4 : f 4 = .pointer (some ⟨b4, 0, none⟩) := H.x (4, .pointer (some ⟨b4, 0, none⟩)) (by simp)
      have k5 : f 5 = undef := H.x (5, undef) (by simp)
      have k7 : f 7 = .int .i64 (k : Int) := H.x (7, .int .i64 (k : Int)) (by simp)
      obtain ⟨b8, k8, hbb8, hvb8⟩ := H.m.done (q := ⟨19, 22, 8, pcel ((cuOf p s).at ((k : Int)) ((n : Int))), 23⟩) (hall 19 (by decide)) (hall 22 (by decide)) (by simp)
      obtain ⟨b9, k9, hbb9, hvb9⟩ := H.m.done (q := ⟨20, 23, 9, pcel ((cuOf p s).at ((k : Int) + 1) ((n : Int))), 23⟩) (hall 20 (by decide)) (hall 23 (by decide)) (by simp)
      obtain ⟨b10, k10, hbb10, hvb10⟩ := H.m.done (q := ⟨21, 24, 10, pcel ((cuOf p s).at (2 * (k : Int) + 1) (2 * (n : Int))), 23⟩) (hall 21 (by decide)) (hall 24 (by decide)) (by simp)
      have HBW := hid H.m.b
      have hw := ha.whole
      rw [show ((List.range 140).map f).toArray = #[f 0, f 1, f 2, f 3, f 4, f 5, f 6, f 7, f 8, f 9, f 10, f 11, f 12, f 13, f 14, f 15, f 16, f 17, f 18, f 19, f 20, f 21, f 22, f 23, f 24, f 25, f 26, f 27, f 28, f 29, f 30, f 31, f 32, f 33, f 34, f 35, f 36, f 37, f 38, f 39, f 40, f 41, f 42, f 43, f 44, f 45, f 46, f 47, f 48, f 49, f 50, f 51, f 52, f 53, f 54, f 55, f 56, f 57, f 58, f 59, f 60, f 61, f 62, f 63, f 64, f 65, f 66, f 67, f 68, f 69, f 70, f 71, f 72, f 73, f 74, f 75, f 76, f 77, f 78, f 79, f 80, f 81, f 82, f 83, f 84, f 85, f 86, f 87, f 88, f 89, f 90, f 91, f 92, f 93, f 94, f 95, f 96, f 97, f 98, f 99, f 100, f 101, f 102, f 103, f 104, f 105, f 106, f 107, f 108, f 109, f 110, f 111, f 112, f 113, f 114, f 115, f 116, f 117, f 118, f 119, f 120, f 121, f 122, f 123, f 124, f 125, f 126, f 127, f 128, f 129, f 130, f 131, f 132, f 133, f 134, f 135, f 136, f 137, f 138, f 139] from rfl] at hw
      rw [k0, k1, k2, k3, k4, k5, k7, k8, k9, k10] at hw
      subst hw
      clear ha H hall hKn k0 k1 k2 k3 k4 k5 k7 k8 k9 k10 Kn
      clear L
      have HV4 := hid (HV.out.next HBW.out)
      have HT4 := hid (HT.out.next HBW.out)
      have HB4 := hid (below_next HB.out HBW.out)
      have HA := hid hvb8
      have HD := hid hvb9
      have HM := hid hvb10
      have ha := at_in HC.out I0
      have hb := at_in HC.out I1
      have hm := at_in HC.out I2
      have HN := hid (show nearK (cuOf p s) n k = near ((cuOf p s).at (2 * (k : Int) + 1) (2 * (n : Int))) ((cuOf p s).at (k : Int) (n : Int)) ((cuOf p s).at ((k : Int) + 1) (n : Int)) from rfl)
      clear HBW hvb8 hvb9 hvb10 hbb8 hbb9 hbb10 HV HT HB LP LS I0 I1 I2 g1 g2 g3 g4
      generalize (cuOf p s).at (2 * (k : Int) + 1) (2 * (n : Int)) = m at HN HM hm
      generalize (cuOf p s).at (k : Int) (n : Int) = a at HN HA ha
      generalize (cuOf p s).at ((k : Int) + 1) (n : Int) = b at HN HD hb
      obtain ⟨⟨mx1, mx2⟩, ⟨my1, my2⟩⟩ := hm
      obtain ⟨⟨ax1, ax2⟩, ⟨ay1, ay2⟩⟩ := ha
      obtain ⟨⟨bx1, bx2⟩, ⟨by1, by2⟩⟩ := hb
      go_upto_region 5 with fail
      rename_i K5 hK5
      have key : ∀ tm : Array Value, tm.size = 140 → tm.getD 0 undef = ptv p → tm.getD 1 undef = seg s → tm.getD 2 undef = .int .i64 (n : Int) → tm.getD 3 undef = .pointer (some ⟨b3, 0, none⟩) → tm.getD 4 undef = .pointer (some ⟨b4, 0, none⟩) → tm.getD 5 undef = undef → tm.getD 7 undef = .int .i64 (k : Int) → tm.getD 8 undef = .pointer (some ⟨b8, 0, none⟩) → tm.getD 9 undef = .pointer (some ⟨b9, 0, none⟩) → tm.getD 10 undef = .pointer (some ⟨b10, 0, none⟩) → tm.getD 99 undef = .bool (!(btw m.x a.x b.x && btw m.y a.y b.y)) → K5 ⟨tm, []⟩ w4 := by
        intro tm hs h0 h1 h2 h3 h4 h5 h7 h8 h9 h10 h99
        refine hK5 _ _ ?_
        have hs0 := Is.start tm hs
        obtain ⟨g9, hg9, k0, k1, k2, k3, k4, k5, k7, k8, k9, k10, k99⟩ : ∃ g9, Is ⟨tm, []⟩ 140 g9 ∧ g9 0 = ptv p ∧ g9 1 = seg s ∧ g9 2 = .int .i64 ((n : Int)) ∧ g9 3 = .pointer (some ⟨b3, 0, none⟩) ∧ g9 4 = .pointer (some ⟨b4, 0, none⟩) ∧ g9 5 = undef ∧ g9 7 = .int .i64 ((k : Int)) ∧ g9 8 = .pointer (some ⟨b8, 0, none⟩) ∧ g9 9 = .pointer (some ⟨b9, 0, none⟩) ∧ g9 10 = .pointer (some ⟨b10, 0, none⟩) ∧ g9 99 = .bool (!(btw m.x a.x b.x && btw m.y a.y b.y)) := ⟨_, hs0, h0, h1, h2, h3, h4, h5, h7, h8, h9, h10, h99⟩
        have hw := hg9.whole
        rw [show ((List.range 140).map g9).toArray = #[g9 0, g9 1, g9 2, g9 3, g9 4, g9 5, g9 6, g9 7, g9 8, g9 9, g9 10, g9 11, g9 12, g9 13, g9 14, g9 15, g9 16, g9 17, g9 18, g9 19, g9 20, g9 21, g9 22, g9 23, g9 24, g9 25, g9 26, g9 27, g9 28, g9 29, g9 30, g9 31, g9 32, g9 33, g9 34, g9 35, g9 36, g9 37, g9 38, g9 39, g9 40, g9 41, g9 42, g9 43, g9 44, g9 45, g9 46, g9 47, g9 48, g9 49, g9 50, g9 51, g9 52, g9 53, g9 54, g9 55, g9 56, g9 57, g9 58, g9 59, g9 60, g9 61, g9 62, g9 63, g9 64, g9 65, g9 66, g9 67, g9 68, g9 69, g9 70, g9 71, g9 72, g9 73, g9 74, g9 75, g9 76, g9 77, g9 78, g9 79, g9 80, g9 81, g9 82, g9 83, g9 84, g9 85, g9 86, g9 87, g9 88, g9 89, g9 90, g9 91, g9 92, g9 93, g9 94, g9 95, g9 96, g9 97, g9 98, g9 99, g9 100, g9 101, g9 102, g9 103, g9 104, g9 105, g9 106, g9 107, g9 108, g9 109, g9 110, g9 111, g9 112, g9 113, g9 114, g9 115, g9 116, g9 117, g9 118, g9 119, g9 120, g9 121, g9 122, g9 123, g9 124, g9 125, g9 126, g9 127, g9 128, g9 129, g9 130, g9 131, g9 132, g9 133, g9 134, g9 135, g9 136, g9 137, g9 138, g9 139] from rfl] at hw
        rw [k0, k1, k2, k3, k4, k5, k7, k8, k9, k10, k99] at hw
        rw [hw]
        clear hw hg9 hs0 k0 k1 k2 k3 k4 k5 k7 k8 k9 k10 k99 h0 h1 h2 h3 h4 h5 h7 h8 h9 h10 h99 hs
        clear hK5 K5 tm
        cases hbt : (btw m.x a.x b.x && btw m.y a.y b.y)
        · have HNF := hid (FN.out k hlt (by rw [HN.out]; unfold near; rw [← Bool.and_assoc, hbt]; rfl))
          clear hbt HN
          go_wp2_with fail
          go_ret
          exact ⟨ret1_bool HNF.out.symm, HB4.out⟩
        · have HNZ := hid (show nearK (cuOf p s) n k = flatB m a b by rw [HN.out]; unfold near; rw [← Bool.and_assoc, hbt, Bool.true_and])
          clear hbt HN
          go_upto_region 7 with fail
          have g1 : Rg (b.x - a.x) := by unfold Rg; omega
          have g2 : Rg (b.y - a.y) := by unfold Rg; omega
          have L8 := fun w1 (h : Below w4.heap.size w4 w1) => HA.out.next h
          have L9 := fun w1 (h : Below w4.heap.size w4 w1) => HD.out.next h
          rename_i Kn hKn
          refine Iv.wp_region_inv (n := 140) (TJ [some 100, some 101, some 102, some 103, some 104, some 105, some 106, some 107, some 108, some 109, some 11, some 12]
              [.pointer (some ⟨b9, 0, none⟩), .int .i64 b.x, .pointer (some ⟨b8, 0, none⟩), .int .i64 a.x, .int .i64 (b.x - a.x), .pointer (some ⟨b9, 1, none⟩), .int .i64 b.y, .pointer (some ⟨b8, 1, none⟩), .int .i64 a.y, .int .i64 (b.y - a.y), .int .i64 (b.x - a.x), .int .i64 (b.y - a.y)]
              [(2, .int .i64 (n : Int)), (3, .pointer (some ⟨b3, 0, none⟩)), (4, .pointer (some ⟨b4, 0, none⟩)), (5, undef), (7, .int .i64 (k : Int)), (0, ptv p), (1, seg s), (8, .pointer (some ⟨b8, 0, none⟩)), (9, .pointer (some ⟨b9, 0, none⟩)), (10, .pointer (some ⟨b10, 0, none⟩))] (MB w4 [])) _ (by kernel_rfl) (by kernel_rfl) (Is.start _ rfl) ?_ ?_ ?_
          · refine ⟨fun i d _ h => (by cases h), fun q hq => ?_, MB.start w4 _ _⟩
            simp only [List.mem_cons, List.not_mem_nil, or_false] at hq
            rcases hq with rfl | rfl | rfl | rfl | rfl | rfl | rfl | rfl | rfl | rfl
            all_goals rfl
          · exact ⟨nb_val rfl rfl rfl rfl rfl fun L f wx hL hdep H => run_fld_pt0 (H.x (9, .pointer (some ⟨b9, 0, none⟩)) (by simp)),
    nb_val rfl rfl rfl rfl rfl fun L f wx hL hdep H => run_load_int (H.t 0 100 rfl (hdep ⟨0, .data⟩ (by simp) rfl)) ((L9 wx H.m.b).cell 0),
    nb_val rfl rfl rfl rfl rfl fun L f wx hL hdep H => run_fld_pt0 (H.x (8, .pointer (some ⟨b8, 0, none⟩)) (by simp)),
    nb_val rfl rfl rfl rfl rfl fun L f wx hL hdep H => run_load_int (H.t 2 102 rfl (hdep ⟨2, .data⟩ (by simp) rfl)) ((L8 wx H.m.b).cell 0),
    nb_val rfl rfl rfl rfl rfl fun L f wx hL hdep H => run_sub (H.t 1 101 rfl (hdep ⟨1, .data⟩ (by simp) rfl)) (H.t 3 103 rfl (hdep ⟨3, .data⟩ (by simp) rfl)) g1,
    nb_val rfl rfl rfl rfl rfl fun L f wx hL hdep H => run_fld_pt1 (H.x (9, .pointer (some ⟨b9, 0, none⟩)) (by simp)),
    nb_val rfl rfl rfl rfl rfl fun L f wx hL hdep H => run_load_int (H.t 5 105 rfl (hdep ⟨5, .data⟩ (by simp) rfl)) ((L9 wx H.m.b).cell 1),
    nb_val rfl rfl rfl rfl rfl fun L f wx hL hdep H => run_fld_pt1 (H.x (8, .pointer (some ⟨b8, 0, none⟩)) (by simp)),
    nb_val rfl rfl rfl rfl rfl fun L f wx hL hdep H => run_load_int (H.t 7 107 rfl (hdep ⟨7, .data⟩ (by simp) rfl)) ((L8 wx H.m.b).cell 1),
    nb_val rfl rfl rfl rfl rfl fun L f wx hL hdep H => run_sub (H.t 6 106 rfl (hdep ⟨6, .data⟩ (by simp) rfl)) (H.t 8 108 rfl (hdep ⟨8, .data⟩ (by simp) rfl)) g2,
    nb_val rfl rfl rfl rfl rfl fun L f wx hL hdep H => congrArg (fun v => Result.ok (Next.value v) wx) (H.t 4 104 rfl (hdep ⟨4, .data⟩ (by simp) rfl)),
    nb_val rfl rfl rfl rfl rfl fun L f wx hL hdep H => congrArg (fun v => Result.ok (Next.value v) wx) (H.t 9 109 rfl (hdep ⟨9, .data⟩ (by simp) rfl)), trivial⟩
          intro L f act w7 hall H ha
          refine hKn _ _ ?_
          have k0 : f 0 = ptv p := H.x (0, ptv p) (by simp)
          have k1 : f 1 = seg s := H.x (1, seg s) (by simp)
          have k2 : f 2 = .int .i64 (n : Int) := H.x (2, .int .i64 (n : Int)) (by simp)
          have k3 : f 3 = .pointer (some ⟨b3, 0, none⟩) := H.x (3, .pointer (some ⟨b3, 0, none⟩)) (by simp)
          have k4 : f 4 = .pointer (some ⟨b4, 0, none⟩) := H.x (4, .pointer (some ⟨b4, 0, none⟩)) (by simp)
          have k5 : f 5 = undef := H.x (5, undef) (by simp)
          have k7 : f 7 = .int .i64 (k : Int) := H.x (7, .int .i64 (k : Int)) (by simp)
          have k8 : f 8 = .pointer (some ⟨b8, 0, none⟩) := H.x (8, .pointer (some ⟨b8, 0, none⟩)) (by simp)
          have k9 : f 9 = .pointer (some ⟨b9, 0, none⟩) := H.x (9, .pointer (some ⟨b9, 0, none⟩)) (by simp)
          have k10 : f 10 = .pointer (some ⟨b10, 0, none⟩) := H.x (10, .pointer (some ⟨b10, 0, none⟩)) (by simp)
          have k11 : f 11 = .int .i64 (b.x - a.x) := H.t 10 11 rfl (hall 10 (by decide))
          have k12 : f 12 = .int .i64 (b.y - a.y) := H.t 11 12 rfl (hall 11 (by decide))
          have HBW := hid H.m.b
          have hw := ha.whole
          rw [show ((List.range 140).map f).toArray = #[f 0, f 1, f 2, f 3, f 4, f 5, f 6, f 7, f 8, f 9, f 10, f 11, f 12, f 13, f 14, f 15, f 16, f 17, f 18, f 19, f 20, f 21, f 22, f 23, f 24, f 25, f 26, f 27, f 28, f 29, f 30, f 31, f 32, f 33, f 34, f 35, f 36, f 37, f 38, f 39, f 40, f 41, f 42, f 43, f 44, f 45, f 46, f 47, f 48, f 49, f 50, f 51, f 52, f 53, f 54, f 55, f 56, f 57, f 58, f 59, f 60, f 61, f 62, f 63, f 64, f 65, f 66, f 67, f 68, f 69, f 70, f 71, f 72, f 73, f 74, f 75, f 76, f 77, f 78, f 79, f 80, f 81, f 82, f 83, f 84, f 85, f 86, f 87, f 88, f 89, f 90, f 91, f 92, f 93, f 94, f 95, f 96, f 97, f 98, f 99, f 100, f 101, f 102, f 103, f 104, f 105, f 106, f 107, f 108, f 109, f 110, f 111, f 112, f 113, f 114, f 115, f 116, f 117, f 118, f 119, f 120, f 121, f 122, f 123, f 124, f 125, f 126, f 127, f 128, f 129, f 130, f 131, f 132, f 133, f 134, f 135, f 136, f 137, f 138, f 139] from rfl] at hw
          rw [k0, k1, k2, k3, k4, k5, k7, k8, k9, k10, k11, k12] at hw
          subst hw
          clear ha H hall hKn k0 k1 k2 k3 k4 k5 k7 k8 k9 k10 k11 k12 Kn
          clear L
          have HA7 := hid (HA.out.next HBW.out)
          have HM7 := hid (HM.out.next HBW.out)
          have HV7 := hid (HV4.out.next HBW.out)
          have HT7 := hid (HT4.out.next HBW.out)
          have HB7 := hid (below_next HB4.out HBW.out)
          clear HBW L8 L9 g1 g2 HA HD HM HV4 HT4 HB4
          have u1 := mulb (x := b.x - a.x) (y := m.y - a.y) (X := 65534) (Y := 65534) (by omega) (by omega)
          have u2 := mulb (x := b.y - a.y) (y := m.x - a.x) (X := 65534) (Y := 65534) (by omega) (by omega)
          obtain ⟨m0, m1, mf⟩ := HM7.out.read2
          obtain ⟨a0, a1, af⟩ := HA7.out.read2
          obtain ⟨z, hz⟩ : ∃ z, z = max ((b.x - a.x) * (m.y - a.y) - (b.y - a.y) * (m.x - a.x)) (-((b.x - a.x) * (m.y - a.y) - (b.y - a.y) * (m.x - a.x))) := ⟨_, rfl⟩
          have HZ := hid hz
          have hzb : 0 ≤ z ∧ z ≤ 17179869184 := by omega
          clear hz
          go_wp2_with fail
          (with_reducible refine (dist_is HZ.out _ (by omega) (by omega)).mono ?_); rintro e w8 ⟨rfl, rfl⟩
          clear m0 m1 mf a0 a1 af u1 u2
          obtain ⟨D1, hD1⟩ : ∃ D, D = max (b.x - a.x) (-(b.x - a.x)) := ⟨_, rfl⟩
          obtain ⟨D2, hD2⟩ : ∃ D, D = max (b.y - a.y) (-(b.y - a.y)) := ⟨_, rfl⟩
          have HFL := hid (show flatB m a b = decide (z ≤ max (max D1 D2) 1) by unfold flatB cross; rw [← HZ.out]; apply decide_eq_decide.2; omega)
          have H1 := hid hD1
          have H2 := hid hD2
          clear hD1 hD2
          have cs : (z ≤ 1 ∨ z ≤ D1 ∨ z ≤ D2) ∨ (1 < z ∧ D1 < z ∧ D2 < z) := by omega
          rcases cs with cs | ⟨c1, c2, c3⟩
          · have HF1 := hid (show ∀ j, j < k + 1 → nearK (cuOf p s) n j = true from fun j hj => by
              by_cases e : j = k
              · rw [e, HNZ.out, HFL.out]; simp; omega
              · exact HF.out j (by omega))
            clear HNZ HFL HF HZ
            by_cases c1 : z ≤ 1
            · have t1 : decide (1 < z) = false := by simp; omega
              clear cs
              go_wp2_with fail
              go_roundw
              case rel => exact ⟨k + 1, by omega, by go_num, HF1, HV7, HT7, HB7⟩
              case measure => simp [intOf]; omega
            · by_cases c2 : z ≤ D1
              · have t1 : decide (1 < z) = true := by simp; omega
                have t2 : decide (D1 < z) = false := by simp; omega
                clear cs
                go_wp2_with fail
                (with_reducible refine (dist_is H1.out _ (by omega) (by omega)).mono ?_); rintro e w9 ⟨rfl, rfl⟩
                go_wp2_with fail
                go_roundw
                case rel => exact ⟨k + 1, by omega, by go_num, HF1, HV7, HT7, HB7⟩
                case measure => simp [intOf]; omega
              · have c3 : z ≤ D2 := by omega
                have t1 : decide (1 < z) = true := by simp; omega
                have t2 : decide (D1 < z) = true := by simp; omega
                have t3 : decide (D2 < z) = false := by simp; omega
                clear cs
                go_wp2_with fail
                (with_reducible refine (dist_is H1.out _ (by omega) (by omega)).mono ?_); rintro e w9 ⟨rfl, rfl⟩
                go_wp2_with fail
                (with_reducible refine (dist_is H2.out _ (by omega) (by omega)).mono ?_); rintro e w9 ⟨rfl, rfl⟩
                go_wp2_with fail
                go_roundw
                case rel => exact ⟨k + 1, by omega, by go_num, HF1, HV7, HT7, HB7⟩
                case measure => simp [intOf]; omega
          · have HNF := hid (FN.out k hlt (by rw [HNZ.out, HFL.out]; simp; omega))
            clear HNZ HFL HF HZ
            have t1 : decide (1 < z) = true := by simp; omega
            have t2 : decide (D1 < z) = true := by simp; omega
            have t3 : decide (D2 < z) = true := by simp; omega
            go_wp2_with fail
            (with_reducible refine (dist_is H1.out _ (by omega) (by omega)).mono ?_); rintro e w9 ⟨rfl, rfl⟩
            go_wp2_with fail
            (with_reducible refine (dist_is H2.out _ (by omega) (by omega)).mono ?_); rintro e w9 ⟨rfl, rfl⟩
            go_wp2_with fail
            go_ret
            exact ⟨ret1_bool HNF.out.symm, HB7.out⟩
      obtain ⟨m0, m1, mf⟩ := HM.out.read2
      obtain ⟨a0, a1, af⟩ := HA.out.read2
      obtain ⟨d0, d1, df⟩ := HD.out.read2
      have KEY := hid key
      clear key hK5 FN FY IK IM HF HN HV4 HT4 HB4
      go_wp2_with fail
      all_goals
        refine KEY.out _ rfl rfl rfl rfl rfl rfl rfl rfl rfl rfl rfl (congrArg Value.bool ?_)
        rw [Bool.eq_iff_iff]
        simp [btw]
        try omega
    · have HN := hid (FY.out (fun j hj => HF.out j (by omega)))
      go_wp2_with fail
      go_ret
      exact ⟨ret1_bool HN.out.symm, HB.out⟩

end Go.Proofs.Ytcdedefhofkbhaa
