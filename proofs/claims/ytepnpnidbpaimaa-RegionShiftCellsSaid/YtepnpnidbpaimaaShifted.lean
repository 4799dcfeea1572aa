/- The reference's Shifted; SameRuns, Area. -/
import Derived.Test.YtepnpnidbpaimaaShift
namespace Go.Proofs.Ytepnpnidbpaimaa
open Go Go.RowKit
set_option linter.unusedVariables false
set_option linter.unusedSimpArgs false

def ShRes (rs : List Rn) (w : World) (e : Ending) (w' : World) : Prop := ∃ v, e = .returned v ∧ OwnR w' w.heap.size v rs ∧ Below w.heap.size w w'
set_option maxHeartbeats 4000000 in
set_option maxRecDepth 100000 in
theorem shifted_any (A : Option Addr) (ss : List Rn) (n c : Nat) (dx dy : Int) (w : World) (hn : n = ss.length) (hs : Runs w A ss) (hc : chk ss = 0) (h1 : -16384 ≤ dx ∧ dx ≤ 16384) (h2 : -16384 ≤ dy ∧ dy ≤ 16384) :
    Calls Try.prog 45 #[.slice A n c, .int .i64 dx, .int .i64 dy] w (ShRes (shiftL dx dy ss) w) := by
  have HS := hid hs
  have HN := hid hn
  have HC := hid hc
  have hnb : n ≤ 1000000000 := by rw [hn]; exact chk_len hc
  clear hs hn hc
  obtain ⟨h1a, h1b⟩ := h1
  obtain ⟨h2a, h2b⟩ := h2
  go_enter Try.func45, Try.ntmps45
  go_wp2_with fail
  go_loopw [7, 14] (fun s7 s14 wr => SR dx dy ss n w s7 s14 wr) (fun _ s14 _ => n - (intOf s14).toNat)
  case atStart => exact ⟨0, _, rfl, Nat.zero_le _, rfl, hid ⟨OwnR.nil _ _, Below.refl _ _⟩⟩
  case round =>
    obtain ⟨k, v, hv, hkn, rfl, HL⟩ := hrel
    have hv' := hv.symm
    clear hv
    subst hv'
    by_cases hlt : k < n
    · have hlz : k < ss.length := by rw [← HN.out]; exact hlt
      obtain ⟨a, rfl, hal, hsa⟩ := (HS.out.next HL.out.2).at_ hlz
      have HT := hid (show shiftL dx dy (ss.take (k + 1)) = shiftL dx dy (ss.take k) ++ (if mvOk dx dy ss[k] = true then [mvRn dx dy ss[k]] else []) by rw [List.take_succ_eq_append_getElem hlz, shiftL_snoc])
      have hrin := ((chk_all HC.out).1 _ (List.getElem_mem hlz)).1
      have hlen : (shiftL dx dy (ss.take k)).length ≤ 5000000000 := by have := shiftL_len dx dy (ss.take k); rw [List.length_take] at this; have := HN.out; omega
      generalize ss[k] = r at hsa HT hrin
      obtain ⟨c0, c1, c2⟩ := hsa
      unfold RnIn at hrin
      obtain ⟨⟨y0, y1⟩, ⟨a0', a1'⟩, ⟨b0', b1'⟩⟩ := hrin
      have e1 : IntKind.i64.wrap (r.y + dy) = r.y + dy := IntWalk.i64_in _ (by omega)
      have e2 : IntKind.i64.wrap (r.a + dx) = r.a + dx := IntWalk.i64_in _ (by omega)
      have e3 : IntKind.i64.wrap (r.b + dx) = r.b + dx := IntWalk.i64_in _ (by omega)
      go_upto_region 5 with fail
      go_quiet (fail)
      clear e1 e2 e3 c0 c1 c2
      have HB3 := hid (below_drewN (Below.refl wr.heap.size wr) nq)
      generalize World.drewN wr _ = W3 at HB3 ⊢
      have HO3 := hid (HL.out.1.next HB3.out)
      have HBW := hid (below_next HL.out.2 HB3.out)
      by_cases hA : r.a + dx < -8192
      · by_cases hB : 8192 < r.b + dx
        · have HMV : Hid (mvRn dx dy r = ⟨r.y + dy, (-8192), 8192⟩) := hid (Rn.ext' ⟨rfl, by show max (r.a + dx) (-8192) = (-8192); omega, by show min (r.b + dx) 8192 = 8192; omega⟩)
          have HMO : Hid (mvOk dx dy r = true ↔ (-8192 ≤ r.y + dy ∧ r.y + dy ≤ 8191) ∧ (-8192) < 8192) := hid (by unfold mvOk; rw [decide_eq_true_eq]; omega)
          by_cases hp : -8192 ≤ r.y + dy ∧ r.y + dy ≤ 8191
          · by_cases hq : (-8192) < 8192
            · have HOK := hid (HT.out.trans (by rw [if_pos (HMO.out.2 ⟨hp, hq⟩), HMV.out]))
              obtain ⟨v', w4, g1, g2, g3⟩ := append_rn (ty := 22) (s := ⟨r.y + dy, (-8192), 8192⟩) HBW.out.size HO3.out hlen
              have H1 := hid g1
              have HL4 := hid (show OwnR w4 w.heap.size v' (shiftL dx dy (ss.take (k + 1))) ∧ Below w.heap.size w w4 from ⟨by rw [HOK.out]; exact g2, HBW.out.grown g3.g HBW.out.size (fun j hj => (HO3.out.ge j hj).1)⟩)
              clear g1 g2 g3
              go_upto_region 11 with (go_at_call 40; (with_reducible refine (in_t _ _ _ _ (by assumption)).mono ?_); rintro e w' ⟨rfl, rfl⟩)
              rename_i Kn hKn
              refine wp_region_lit ?_
              refine sq_start (n := 58) rfl fun a0 hs0 => ?_
              have ha0 := (((((((((((((((hs0.pin 0 (v := .slice (some a) n c) rfl).pin 1 (v := .int .i64 dx) rfl).pin 2 (v := .int .i64 dy) rfl).pin 3 (v := undef) rfl).pin 4 (v := undef) rfl).pin 5 (v := undef) rfl).pin 6 (v := .slice none 0 0) rfl).pin 7 (v := v) rfl).pin 9 (v := .int .i64 (r.y + dy)) rfl).pin 10 (v := .int .i64 (-8192)) rfl).pin 11 (v := .int .i64 8192) rfl).pin 12 (v := .slice (some a) n c) rfl).pin 13 (v := .int .i64 n) rfl).pin 14 (v := .int .i64 (k : Int)) rfl).pin 57 (v := undef) rfl)
              clear hs0
              generalize (fun i => Array.getD _ i undef) = g0 at ha0
              refine sq_val (v := v) ha0 rfl (rfl) fun a1 ha1 => ?_
              refine sq_val (v := .int .i64 (r.y + dy)) ha1 rfl (rfl) fun a2 ha2 => ?_
              refine sq_val (v := .int .i64 (-8192)) ha2 rfl (rfl) fun a3 ha3 => ?_
              refine sq_val (v := .int .i64 8192) ha3 rfl (rfl) fun a4 ha4 => ?_
              refine sq_val (v := rn (⟨r.y + dy, (-8192), 8192⟩)) ha4 rfl (run_buildRn rfl rfl rfl) fun a5 ha5 => ?_
              refine sq_val (v := .slice (some ⟨W3.heap.size, 0, none⟩) 1 1) ha5 rfl (run_litRn rfl) fun a6 ha6 => ?_
              refine sq_val (v := v') ha6 rfl (run_append rfl rfl H1.out) fun a7 ha7 => ?_
              refine sq_val (v := v') ha7 rfl (rfl) fun a8 ha8 => ?_
              refine wpList_nil ?_
              refine hKn _ _ ?_
              obtain ⟨g9, hg9, k0, k1, k2, k3, k4, k5, k6, k7, k9, k10, k11, k12, k13, k14, k57⟩ : ∃ g9, Is a8 58 g9 ∧ g9 0 = .slice (some a) n c ∧ g9 1 = .int .i64 dx ∧ g9 2 = .int .i64 dy ∧ g9 3 = undef ∧ g9 4 = undef ∧ g9 5 = undef ∧ g9 6 = .slice none 0 0 ∧ g9 7 = v' ∧ g9 9 = .int .i64 (r.y + dy) ∧ g9 10 = .int .i64 (-8192) ∧ g9 11 = .int .i64 8192 ∧ g9 12 = .slice (some a) n c ∧ g9 13 = .int .i64 n ∧ g9 14 = .int .i64 (k : Int) ∧ g9 57 = undef := ⟨_, ha8, rfl, rfl, rfl, rfl, rfl, rfl, rfl, rfl, rfl, rfl, rfl, rfl, rfl, rfl, rfl⟩
              have hw := hg9.whole
              rw [show ((List.range 58).map g9).toArray = #[g9 0, g9 1, g9 2, g9 3, g9 4, g9 5, g9 6, g9 7, g9 8, g9 9, g9 10, g9 11, g9 12, g9 13, g9 14, g9 15, g9 16, g9 17, g9 18, g9 19, g9 20, g9 21, g9 22, g9 23, g9 24, g9 25, g9 26, g9 27, g9 28, g9 29, g9 30, g9 31, g9 32, g9 33, g9 34, g9 35, g9 36, g9 37, g9 38, g9 39, g9 40, g9 41, g9 42, g9 43, g9 44, g9 45, g9 46, g9 47, g9 48, g9 49, g9 50, g9 51, g9 52, g9 53, g9 54, g9 55, g9 56, g9 57] from rfl] at hw
              rw [k0, k1, k2, k3, k4, k5, k6, k7, k9, k10, k11, k12, k13, k14, k57] at hw
              subst hw
              clear hg9 k0 k1 k2 k3 k4 k5 k6 k7 k9 k10 k11 k12 k13 k14 k57
              clear ha0 ha1 ha2 ha3 ha4 ha5 ha6 ha7 ha8 hKn Kn
              go_wp2_with fail
              go_roundw
              case rel => exact ⟨k + 1, v', rfl, by omega, by go_num, HL4⟩
              case measure => simp [intOf]; omega
            · exact absurd (by decide) hq
          · have HOK := hid (HT.out.trans (by rw [if_neg (fun h => hp (HMO.out.1 h).1), List.append_nil]))
            have HL4 := hid (show OwnR W3 w.heap.size v (shiftL dx dy (ss.take (k + 1))) ∧ Below w.heap.size w W3 from ⟨by rw [HOK.out]; exact HO3.out, HBW.out⟩)
            go_wp2_with (go_at_call 40; (with_reducible refine (in_f _ _ _ _ (by assumption)).mono ?_); rintro e w' ⟨rfl, rfl⟩)
            go_roundw
            case rel => exact ⟨k + 1, v, rfl, by omega, by go_num, HL4⟩
            case measure => simp [intOf]; omega
        · have HMV : Hid (mvRn dx dy r = ⟨r.y + dy, (-8192), r.b + dx⟩) := hid (Rn.ext' ⟨rfl, by show max (r.a + dx) (-8192) = (-8192); omega, by show min (r.b + dx) 8192 = r.b + dx; omega⟩)
          have HMO : Hid (mvOk dx dy r = true ↔ (-8192 ≤ r.y + dy ∧ r.y + dy ≤ 8191) ∧ (-8192) < r.b + dx) := hid (by unfold mvOk; rw [decide_eq_true_eq]; omega)
          by_cases hp : -8192 ≤ r.y + dy ∧ r.y + dy ≤ 8191
          · by_cases hq : (-8192) < r.b + dx
            · have HOK := hid (HT.out.trans (by rw [if_pos (HMO.out.2 ⟨hp, hq⟩), HMV.out]))
              obtain ⟨v', w4, g1, g2, g3⟩ := append_rn (ty := 22) (s := ⟨r.y + dy, (-8192), r.b + dx⟩) HBW.out.size HO3.out hlen
              have H1 := hid g1
              have HL4 := hid (show OwnR w4 w.heap.size v' (shiftL dx dy (ss.take (k + 1))) ∧ Below w.heap.size w w4 from ⟨by rw [HOK.out]; exact g2, HBW.out.grown g3.g HBW.out.size (fun j hj => (HO3.out.ge j hj).1)⟩)
              clear g1 g2 g3
              go_upto_region 11 with (go_at_call 40; (with_reducible refine (in_t _ _ _ _ (by assumption)).mono ?_); rintro e w' ⟨rfl, rfl⟩)
              rename_i Kn hKn
              refine wp_region_lit ?_
              refine sq_start (n := 58) rfl fun a0 hs0 => ?_
              have ha0 := (((((((((((((((hs0.pin 0 (v := .slice (some a) n c) rfl).pin 1 (v := .int .i64 dx) rfl).pin 2 (v := .int .i64 dy) rfl).pin 3 (v := undef) rfl).pin 4 (v := undef) rfl).pin 5 (v := undef) rfl).pin 6 (v := .slice none 0 0) rfl).pin 7 (v := v) rfl).pin 9 (v := .int .i64 (r.y + dy)) rfl).pin 10 (v := .int .i64 (-8192)) rfl).pin 11 (v := .int .i64 (r.b + dx)) rfl).pin 12 (v := .slice (some a) n c) rfl).pin 13 (v := .int .i64 n) rfl).pin 14 (v := .int .i64 (k : Int)) rfl).pin 57 (v := undef) rfl)
              clear hs0
              generalize (fun i => Array.getD _ i undef) = g0 at ha0
              refine sq_val (v := v) ha0 rfl (rfl) fun a1 ha1 => ?_
              refine sq_val (v := .int .i64 (r.y + dy)) ha1 rfl (rfl) fun a2 ha2 => ?_
              refine sq_val (v := .int .i64 (-8192)) ha2 rfl (rfl) fun a3 ha3 => ?_
              refine sq_val (v := .int .i64 (r.b + dx)) ha3 rfl (rfl) fun a4 ha4 => ?_
              refine sq_val (v := rn (⟨r.y + dy, (-8192), r.b + dx⟩)) ha4 rfl (run_buildRn rfl rfl rfl) fun a5 ha5 => ?_
              refine sq_val (v := .slice (some ⟨W3.heap.size, 0, none⟩) 1 1) ha5 rfl (run_litRn rfl) fun a6 ha6 => ?_
              refine sq_val (v := v') ha6 rfl (run_append rfl rfl H1.out) fun a7 ha7 => ?_
              refine sq_val (v := v') ha7 rfl (rfl) fun a8 ha8 => ?_
              refine wpList_nil ?_
              refine hKn _ _ ?_
              obtain ⟨g9, hg9, k0, k1, k2, k3, k4, k5, k6, k7, k9, k10, k11, k12, k13, k14, k57⟩ : ∃ g9, Is a8 58 g9 ∧ g9 0 = .slice (some a) n c ∧ g9 1 = .int .i64 dx ∧ g9 2 = .int .i64 dy ∧ g9 3 = undef ∧ g9 4 = undef ∧ g9 5 = undef ∧ g9 6 = .slice none 0 0 ∧ g9 7 = v' ∧ g9 9 = .int .i64 (r.y + dy) ∧ g9 10 = .int .i64 (-8192) ∧ g9 11 = .int .i64 (r.b + dx) ∧ g9 12 = .slice (some a) n c ∧ g9 13 = .int .i64 n ∧ g9 14 = .int .i64 (k : Int) ∧ g9 57 = undef := ⟨_, ha8, rfl, rfl, rfl, rfl, rfl, rfl, rfl, rfl, rfl, rfl, rfl, rfl, rfl, rfl, rfl⟩
              have hw := hg9.whole
              rw [show ((List.range 58).map g9).toArray = #[g9 0, g9 1, g9 2, g9 3, g9 4, g9 5, g9 6, g9 7, g9 8, g9 9, g9 10, g9 11, g9 12, g9 13, g9 14, g9 15, g9 16, g9 17, g9 18, g9 19, g9 20, g9 21, g9 22, g9 23, g9 24, g9 25, g9 26, g9 27, g9 28, g9 29, g9 30, g9 31, g9 32, g9 33, g9 34, g9 35, g9 36, g9 37, g9 38, g9 39, g9 40, g9 41, g9 42, g9 43, g9 44, g9 45, g9 46, g9 47, g9 48, g9 49, g9 50, g9 51, g9 52, g9 53, g9 54, g9 55, g9 56, g9 57] from rfl] at hw
              rw [k0, k1, k2, k3, k4, k5, k6, k7, k9, k10, k11, k12, k13, k14, k57] at hw
              subst hw
              clear hg9 k0 k1 k2 k3 k4 k5 k6 k7 k9 k10 k11 k12 k13 k14 k57
              clear ha0 ha1 ha2 ha3 ha4 ha5 ha6 ha7 ha8 hKn Kn
              go_wp2_with fail
              go_roundw
              case rel => exact ⟨k + 1, v', rfl, by omega, by go_num, HL4⟩
              case measure => simp [intOf]; omega
            · have HOK := hid (HT.out.trans (by rw [if_neg (fun h => hq (HMO.out.1 h).2), List.append_nil]))
              have HL4 := hid (show OwnR W3 w.heap.size v (shiftL dx dy (ss.take (k + 1))) ∧ Below w.heap.size w W3 from ⟨by rw [HOK.out]; exact HO3.out, HBW.out⟩)
              go_wp2_with (go_at_call 40; (with_reducible refine (in_t _ _ _ _ (by assumption)).mono ?_); rintro e w' ⟨rfl, rfl⟩)
              go_roundw
              case rel => exact ⟨k + 1, v, rfl, by omega, by go_num, HL4⟩
              case measure => simp [intOf]; omega
          · have HOK := hid (HT.out.trans (by rw [if_neg (fun h => hp (HMO.out.1 h).1), List.append_nil]))
            have HL4 := hid (show OwnR W3 w.heap.size v (shiftL dx dy (ss.take (k + 1))) ∧ Below w.heap.size w W3 from ⟨by rw [HOK.out]; exact HO3.out, HBW.out⟩)
            go_wp2_with (go_at_call 40; (with_reducible refine (in_f _ _ _ _ (by assumption)).mono ?_); rintro e w' ⟨rfl, rfl⟩)
            go_roundw
            case rel => exact ⟨k + 1, v, rfl, by omega, by go_num, HL4⟩
            case measure => simp [intOf]; omega
      · by_cases hB : 8192 < r.b + dx
        · have HMV : Hid (mvRn dx dy r = ⟨r.y + dy, r.a + dx, 8192⟩) := hid (Rn.ext' ⟨rfl, by show max (r.a + dx) (-8192) = r.a + dx; omega, by show min (r.b + dx) 8192 = 8192; omega⟩)
          have HMO : Hid (mvOk dx dy r = true ↔ (-8192 ≤ r.y + dy ∧ r.y + dy ≤ 8191) ∧ r.a + dx < 8192) := hid (by unfold mvOk; rw [decide_eq_true_eq]; omega)
          by_cases hp : -8192 ≤ r.y + dy ∧ r.y + dy ≤ 8191
          · by_cases hq : r.a + dx < 8192
            · have HOK := hid (HT.out.trans (by rw [if_pos (HMO.out.2 ⟨hp, hq⟩), HMV.out]))
              obtain ⟨v', w4, g1, g2, g3⟩ := append_rn (ty := 22) (s := ⟨r.y + dy, r.a + dx, 8192⟩) HBW.out.size HO3.out hlen
              have H1 := hid g1
              have HL4 := hid (show OwnR w4 w.heap.size v' (shiftL dx dy (ss.take (k + 1))) ∧ Below w.heap.size w w4 from ⟨by rw [HOK.out]; exact g2, HBW.out.grown g3.g HBW.out.size (fun j hj => (HO3.out.ge j hj).1)⟩)
              clear g1 g2 g3
              go_upto_region 11 with (go_at_call 40; (with_reducible refine (in_t _ _ _ _ (by assumption)).mono ?_); rintro e w' ⟨rfl, rfl⟩)
              rename_i Kn hKn
              refine wp_region_lit ?_
              refine sq_start (n := 58) rfl fun a0 hs0 => ?_
              have ha0 := (((((((((((((((hs0.pin 0 (v := .slice (some a) n c) rfl).pin 1 (v := .int .i64 dx) rfl).pin 2 (v := .int .i64 dy) rfl).pin 3 (v := undef) rfl).pin 4 (v := undef) rfl).pin 5 (v := undef) rfl).pin 6 (v := .slice none 0 0) rfl).pin 7 (v := v) rfl).pin 9 (v := .int .i64 (r.y + dy)) rfl).pin 10 (v := .int .i64 (r.a + dx)) rfl).pin 11 (v := .int .i64 8192) rfl).pin 12 (v := .slice (some a) n c) rfl).pin 13 (v := .int .i64 n) rfl).pin 14 (v := .int .i64 (k : Int)) rfl).pin 57 (v := undef) rfl)
              clear hs0
              generalize (fun i => Array.getD _ i undef) = g0 at ha0
              refine sq_val (v := v) ha0 rfl (rfl) fun a1 ha1 => ?_
              refine sq_val (v := .int .i64 (r.y + dy)) ha1 rfl (rfl) fun a2 ha2 => ?_
              refine sq_val (v := .int .i64 (r.a + dx)) ha2 rfl (rfl) fun a3 ha3 => ?_
              refine sq_val (v := .int .i64 8192) ha3 rfl (rfl) fun a4 ha4 => ?_
              refine sq_val (v := rn (⟨r.y + dy, r.a + dx, 8192⟩)) ha4 rfl (run_buildRn rfl rfl rfl) fun a5 ha5 => ?_
              refine sq_val (v := .slice (some ⟨W3.heap.size, 0, none⟩) 1 1) ha5 rfl (run_litRn rfl) fun a6 ha6 => ?_
              refine sq_val (v := v') ha6 rfl (run_append rfl rfl H1.out) fun a7 ha7 => ?_
              refine sq_val (v := v') ha7 rfl (rfl) fun a8 ha8 => ?_
              refine wpList_nil ?_
              refine hKn _ _ ?_
              obtain ⟨g9, hg9, k0, k1, k2, k3, k4, k5, k6, k7, k9, k10, k11, k12, k13, k14, k57⟩ : ∃ g9, Is a8 58 g9 ∧ g9 0 = .slice (some a) n c ∧ g9 1 = .int .i64 dx ∧ g9 2 = .int .i64 dy ∧ g9 3 = undef ∧ g9 4 = undef ∧ g9 5 = undef ∧ g9 6 = .slice none 0 0 ∧ g9 7 = v' ∧ g9 9 = .int .i64 (r.y + dy) ∧ g9 10 = .int .i64 (r.a + dx) ∧ g9 11 = .int .i64 8192 ∧ g9 12 = .slice (some a) n c ∧ g9 13 = .int .i64 n ∧ g9 14 = .int .i64 (k : Int) ∧ g9 57 = undef := ⟨_, ha8, rfl, rfl, rfl, rfl, rfl, rfl, rfl, rfl, rfl, rfl, rfl, rfl, rfl, rfl, rfl⟩
              have hw := hg9.whole
              rw [show ((List.range 58).map g9).toArray = #[g9 0, g9 1, g9 2, g9 3, g9 4, g9 5, g9 6, g9 7, g9 8, g9 9, g9 10, g9 11, g9 12, g9 13, g9 14, g9 15, g9 16, g9 17, g9 18, g9 19, g9 20, g9 21, g9 22, g9 23, g9 24, g9 25, g9 26, g9 27, g9 28, g9 29, g9 30, g9 31, g9 32, g9 33, g9 34, g9 35, g9 36, g9 37, g9 38, g9 39, g9 40, g9 41, g9 42, g9 43, g9 44, g9 45, g9 46, g9 47, g9 48, g9 49, g9 50, g9 51, g9 52, g9 53, g9 54, g9 55, g9 56, g9 57] from rfl] at hw
              rw [k0, k1, k2, k3, k4, k5, k6, k7, k9, k10, k11, k12, k13, k14, k57] at hw
              subst hw
              clear hg9 k0 k1 k2 k3 k4 k5 k6 k7 k9 k10 k11 k12 k13 k14 k57
              clear ha0 ha1 ha2 ha3 ha4 ha5 ha6 ha7 ha8 hKn Kn
              go_wp2_with fail
              go_roundw
              case rel => exact ⟨k + 1, v', rfl, by omega, by go_num, HL4⟩
              case measure => simp [intOf]; omega
            · have HOK := hid (HT.out.trans (by rw [if_neg (fun h => hq (HMO.out.1 h).2), List.append_nil]))
              have HL4 := hid (show OwnR W3 w.heap.size v (shiftL dx dy (ss.take (k + 1))) ∧ Below w.heap.size w W3 from ⟨by rw [HOK.out]; exact HO3.out, HBW.out⟩)
              go_wp2_with (go_at_call 40; (with_reducible refine (in_t _ _ _ _ (by assumption)).mono ?_); rintro e w' ⟨rfl, rfl⟩)
              go_roundw
              case rel => exact ⟨k + 1, v, rfl, by omega, by go_num, HL4⟩
              case measure => simp [intOf]; omega
          · have HOK := hid (HT.out.trans (by rw [if_neg (fun h => hp (HMO.out.1 h).1), List.append_nil]))
            have HL4 := hid (show OwnR W3 w.heap.size v (shiftL dx dy (ss.take (k + 1))) ∧ Below w.heap.size w W3 from ⟨by rw [HOK.out]; exact HO3.out, HBW.out⟩)
            go_wp2_with (go_at_call 40; (with_reducible refine (in_f _ _ _ _ (by assumption)).mono ?_); rintro e w' ⟨rfl, rfl⟩)
            go_roundw
            case rel => exact ⟨k + 1, v, rfl, by omega, by go_num, HL4⟩
            case measure => simp [intOf]; omega
        · have HMV : Hid (mvRn dx dy r = ⟨r.y + dy, r.a + dx, r.b + dx⟩) := hid (Rn.ext' ⟨rfl, by show max (r.a + dx) (-8192) = r.a + dx; omega, by show min (r.b + dx) 8192 = r.b + dx; omega⟩)
          have HMO : Hid (mvOk dx dy r = true ↔ (-8192 ≤ r.y + dy ∧ r.y + dy ≤ 8191) ∧ r.a + dx < r.b + dx) := hid (by unfold mvOk; rw [decide_eq_true_eq]; omega)
          by_cases hp : -8192 ≤ r.y + dy ∧ r.y + dy ≤ 8191
          · by_cases hq : r.a + dx < r.b + dx
            · have HOK := hid (HT.out.trans (by rw [if_pos (HMO.out.2 ⟨hp, hq⟩), HMV.out]))
              obtain ⟨v', w4, g1, g2, g3⟩ := append_rn (ty := 22) (s := ⟨r.y + dy, r.a + dx, r.b + dx⟩) HBW.out.size HO3.out hlen
              have H1 := hid g1
              have HL4 := hid (show OwnR w4 w.heap.size v' (shiftL dx dy (ss.take (k + 1))) ∧ Below w.heap.size w w4 from ⟨by rw [HOK.out]; exact g2, HBW.out.grown g3.g HBW.out.size (fun j hj => (HO3.out.ge j hj).1)⟩)
              clear g1 g2 g3
              go_upto_region 11 with (go_at_call 40; (with_reducible refine (in_t _ _ _ _ (by assumption)).mono ?_); rintro e w' ⟨rfl, rfl⟩)
              rename_i Kn hKn
              refine wp_region_lit ?_
              refine sq_start (n := 58) rfl fun a0 hs0 => ?_
              have ha0 := (((((((((((((((hs0.pin 0 (v := .slice (some a) n c) rfl).pin 1 (v := .int .i64 dx) rfl).pin 2 (v := .int .i64 dy) rfl).pin 3 (v := undef) rfl).pin 4 (v := undef) rfl).pin 5 (v := undef) rfl).pin 6 (v := .slice none 0 0) rfl).pin 7 (v := v) rfl).pin 9 (v := .int .i64 (r.y + dy)) rfl).pin 10 (v := .int .i64 (r.a + dx)) rfl).pin 11 (v := .int .i64 (r.b + dx)) rfl).pin 12 (v := .slice (some a) n c) rfl).pin 13 (v := .int .i64 n) rfl).pin 14 (v := .int .i64 (k : Int)) rfl).pin 57 (v := undef) rfl)
              clear hs0
              generalize (fun i => Array.getD _ i undef) = g0 at ha0
              refine sq_val (v := v) ha0 rfl (rfl) fun a1 ha1 => ?_
              refine sq_val (v := .int .i64 (r.y + dy)) ha1 rfl (rfl) fun a2 ha2 => ?_
              refine sq_val (v := .int .i64 (r.a + dx)) ha2 rfl (rfl) fun a3 ha3 => ?_
              refine sq_val (v := .int .i64 (r.b + dx)) ha3 rfl (rfl) fun a4 ha4 => ?_
              refine sq_val (v := rn (⟨r.y + dy, r.a + dx, r.b + dx⟩)) ha4 rfl (run_buildRn rfl rfl rfl) fun a5 ha5 => ?_
              refine sq_val (v := .slice (some ⟨W3.heap.size, 0, none⟩) 1 1) ha5 rfl (run_litRn rfl) fun a6 ha6 => ?_
              refine sq_val (v := v') ha6 rfl (run_append rfl rfl H1.out) fun a7 ha7 => ?_
              refine sq_val (v := v') ha7 rfl (rfl) fun a8 ha8 => ?_
              refine wpList_nil ?_
              refine hKn _ _ ?_
              obtain ⟨g9, hg9, k0, k1, k2, k3, k4, k5, k6, k7, k9, k10, k11, k12, k13, k14, k57⟩ : ∃ g9, Is a8 58 g9 ∧ g9 0 = .slice (some a) n c ∧ g9 1 = .int .i64 dx ∧ g9 2 = .int .i64 dy ∧ g9 3 = undef ∧ g9 4 = undef ∧ g9 5 = undef ∧ g9 6 = .slice none 0 0 ∧ g9 7 = v' ∧ g9 9 = .int .i64 (r.y + dy) ∧ g9 10 = .int .i64 (r.a + dx) ∧ g9 11 = .int .i64 (r.b + dx) ∧ g9 12 = .slice (some a) n c ∧ g9 13 = .int .i64 n ∧ g9 14 = .int .i64 (k : Int) ∧ g9 57 = undef := ⟨_, ha8, rfl, rfl, rfl, rfl, rfl, rfl, rfl, rfl, rfl, rfl, rfl, rfl, rfl, rfl, rfl⟩
              have hw := hg9.whole
              rw [show ((List.range 58).map g9).toArray = #[g9 0, g9 1, g9 2, g9 3, g9 4, g9 5, g9 6, g9 7, g9 8, g9 9, g9 10, g9 11, g9 12, g9 13, g9 14, g9 15, g9 16, g9 17, g9 18, g9 19, g9 20, g9 21, g9 22, g9 23, g9 24, g9 25, g9 26, g9 27, g9 28, g9 29, g9 30, g9 31, g9 32, g9 33, g9 34, g9 35, g9 36, g9 37, g9 38, g9 39, g9 40, g9 41, g9 42, g9 43, g9 44, g9 45, g9 46, g9 47, g9 48, g9 49, g9 50, g9 51, g9 52, g9 53, g9 54, g9 55, g9 56, g9 57] from rfl] at hw
              rw [k0, k1, k2, k3, k4, k5, k6, k7, k9, k10, k11, k12, k13, k14, k57] at hw
              subst hw
              clear hg9 k0 k1 k2 k3 k4 k5 k6 k7 k9 k10 k11 k12 k13 k14 k57
              clear ha0 ha1 ha2 ha3 ha4 ha5 ha6 ha7 ha8 hKn Kn
              go_wp2_with fail
              go_roundw
              case rel => exact ⟨k + 1, v', rfl, by omega, by go_num, HL4⟩
              case measure => simp [intOf]; omega
            · have HOK := hid (HT.out.trans (by rw [if_neg (fun h => hq (HMO.out.1 h).2), List.append_nil]))
              have HL4 := hid (show OwnR W3 w.heap.size v (shiftL dx dy (ss.take (k + 1))) ∧ Below w.heap.size w W3 from ⟨by rw [HOK.out]; exact HO3.out, HBW.out⟩)
              go_wp2_with (go_at_call 40; (with_reducible refine (in_t _ _ _ _ (by assumption)).mono ?_); rintro e w' ⟨rfl, rfl⟩)
              go_roundw
              case rel => exact ⟨k + 1, v, rfl, by omega, by go_num, HL4⟩
              case measure => simp [intOf]; omega
          · have HOK := hid (HT.out.trans (by rw [if_neg (fun h => hp (HMO.out.1 h).1), List.append_nil]))
            have HL4 := hid (show OwnR W3 w.heap.size v (shiftL dx dy (ss.take (k + 1))) ∧ Below w.heap.size w W3 from ⟨by rw [HOK.out]; exact HO3.out, HBW.out⟩)
            go_wp2_with (go_at_call 40; (with_reducible refine (in_f _ _ _ _ (by assumption)).mono ?_); rintro e w' ⟨rfl, rfl⟩)
            go_roundw
            case rel => exact ⟨k + 1, v, rfl, by omega, by go_num, HL4⟩
            case measure => simp [intOf]; omega
    · have HE := hid (show shiftL dx dy (ss.take k) = shiftL dx dy ss by rw [List.take_of_length_le (by have := HN.out; omega)])
      go_wp2_with fail
      go_ret
      exact ⟨v, rfl, by rw [← HE.out]; exact HL.out.1, HL.out.2⟩

end Go.Proofs.Ytepnpnidbpaimaa
