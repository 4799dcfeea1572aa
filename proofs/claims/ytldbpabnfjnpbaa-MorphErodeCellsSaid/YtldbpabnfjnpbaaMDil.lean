/- The reference's Dilated. -/
import Derived.Test.YtldbpabnfjnpbaaMEro
namespace Go.Proofs.Ytldbpabnfjnpbaa
open Go Go.RowKit
set_option linter.unusedVariables false
set_option linter.unusedSimpArgs false

/-- A row that one of the first k runs reaches. -/
def reach (ss : List Rn) (d k : Nat) (y : Int) : Prop := ∃ r ∈ ss.take k, near_ d y r
theorem reach_next {ss : List Rn} {d k : Nat} (h : k < ss.length) (y : Int) : reach ss d (k + 1) y ↔ reach ss d k y ∨ near_ d y ss[k] := by
  unfold reach
  rw [List.take_succ_eq_append_getElem h]
  constructor
  · rintro ⟨r, hr, e⟩
    rcases List.mem_append.1 hr with hr | hr
    · exact .inl ⟨r, hr, e⟩
    · rw [List.mem_singleton] at hr; subst hr; exact .inr e
  · rintro (⟨r, hr, e⟩ | e)
    · exact ⟨r, List.mem_append_left _ hr, e⟩
    · exact ⟨_, List.mem_append_right _ (List.mem_singleton.2 rfl), e⟩
def D1R (ss : List Rn) (d n : Nat) (w : World) (s5 s18 : Value) (wr : World) : Prop := ∃ (k : Nat) (v : Value) (zs : List Int), s5 = v ∧ k ≤ n ∧ s18 = .int .i64 k ∧ Hid (OwnI wr w.heap.size v zs ∧ Below w.heap.size w wr ∧ RowsD (reach ss d k) (129 * k) zs)
def D1J (ss : List Rn) (d k : Nat) (ry : Int) (w : World) (s5 s7 : Value) (wr : World) : Prop := ∃ (j : Nat) (v : Value) (zs : List Int), s5 = v ∧ j ≤ 2 * d + 1 ∧ s7 = .int .i64 (ry - d + (j : Int)) ∧ Hid (OwnI wr w.heap.size v zs ∧ Below w.heap.size w wr ∧ RowsD (fun y => reach ss d k y ∨ (ry - d ≤ y ∧ y < ry - d + (j : Int))) (129 * k + j) zs)
def D6R (ss : List Rn) (d n : Nat) (b0 y : Int) (w7 : World) (s14 s97 : Value) (wr : World) : Prop := ∃ i : Nat, i ≤ n ∧ s97 = .int .i64 i ∧ s14 = .bool ((ss.take i).any (nearR d b0 y)) ∧ Hid (Below w7.heap.size w7 wr)
theorem in_tq (n lo hi : Int) (w : World) (k : Nat) (h : lo ≤ n ∧ n ≤ hi) : Calls Try.prog 57 #[.int .i64 n, .int .i64 lo, .int .i64 hi] (w.drewN k) fun e w'' => e = .returned (.bool true) ∧ ∃ m, w'' = w.drewN m :=
  Calls.quiet_of_same ((in_t n lo hi _ h).mono fun e w' h => ⟨h.1, h.2.symm⟩)
theorem in_fq (n lo hi : Int) (w : World) (k : Nat) (h : ¬ (lo ≤ n ∧ n ≤ hi)) : Calls Try.prog 57 #[.int .i64 n, .int .i64 lo, .int .i64 hi] (w.drewN k) fun e w'' => e = .returned (.bool false) ∧ ∃ m, w'' = w.drewN m :=
  Calls.quiet_of_same ((in_f n lo hi _ h).mono fun e w' h => ⟨h.1, h.2.symm⟩)

theorem ite_max (x y : Int) : (if x < y then y else x) = max x y := by omega
theorem ite_min (x y : Int) : (if y < x then y else x) = min x y := by omega
attribute [local go_sem] ite_max ite_min
set_option maxHeartbeats 16000000 in
set_option maxRecDepth 100000 in
theorem dilated_any (A : Option Addr) (ss : List Rn) (n c d : Nat) (w : World) (hn : n = ss.length) (hnb : n ≤ 300) (hs : Runs w A ss) (hc : chk ss = 0) (hd : d ≤ 64) :
    Calls Try.prog 41 #[.slice A n c, .int .i64 d] w (RefRes (Dil ss d) (129 * n * (2 * n)) w) := by
  have HS := hid hs
  have HN := hid hn
  have HC := hid hc
  clear hs hn hc
  go_enter Try.func41, Try.ntmps41
  go_wp2_with fail
  go_loopw [5, 18] (fun s5 s18 wr => D1R ss d n w s5 s18 wr) (fun _ s18 _ => n - (intOf s18).toNat)
  case atStart => exact ⟨0, _, [], rfl, Nat.zero_le _, rfl, hid ⟨OwnI.nil _ _, Below.refl _ _, RowsD.start.of (fun z => ⟨fun ⟨r, hr, _⟩ => by simp at hr, fun h => h.elim⟩) (Nat.zero_le _)⟩⟩
  case round =>
    obtain ⟨k, v, zs, hv, hkN, rfl, HL⟩ := hrel
    have hv' := hv.symm
    clear hv
    subst hv'
    by_cases hlt : k < n
    · have hlz : k < ss.length := by rw [← HN.out]; exact hlt
      obtain ⟨w4, rfl⟩ : ∃ w4, w4 = wr := ⟨_, rfl⟩
      obtain ⟨a, rfl, hal, hsa⟩ := (HS.out.next HL.out.2.1).at_ hlz
      have hrin := (rnok_iff.1 ((chk_all HC.out).1 _ (List.getElem_mem hlz))).1
      have HAT : Hid (∀ W : World, Below w.heap.size w W → RnAt W (a.add (k * 3)) ss[k]) := hid (fun W hb => by
        obtain ⟨a', ha', -, h⟩ := (HS.out.next hb).at_ hlz
        cases ha'
        exact h)
      have HRN := hid (reach_next (d := d) hlz)
      generalize ss[k] = r at hsa hrin HAT HRN
      obtain ⟨c0, c1, c2⟩ := hsa
      obtain ⟨⟨ry1, ry2⟩, -, -⟩ := hrin
      go_wp2_with fail
      clear c0 c1 c2
      go_loopw [5, 7] (fun s5 s7 wr => D1J ss d k r.y w s5 s7 wr) (fun _ s7 _ => (r.y + d + 1 - intOf s7).toNat)
      case atStart => exact ⟨0, _, zs, rfl, Nat.zero_le _, by go_num, hid ⟨HL.out.1, HL.out.2.1, HL.out.2.2.of (fun z => ⟨fun h => h.elim id (fun q => by omega), .inl⟩) (Nat.le_refl _)⟩⟩
      case round =>
        obtain ⟨j, v, zs, hv, hj, rfl, HJ⟩ := hrel
        have hv' := hv.symm
        clear hv
        subst hv'
        obtain ⟨c0, c1, c2⟩ := HAT.out _ HJ.out.2.1
        by_cases hlj : j < 2 * d + 1
        · have hle : r.y - d + (j : Int) ≤ r.y + d := by omega
          have hlen : zs.length ≤ 5000000000 := by have := HJ.out.2.2.n; omega
          have hq : Hid (∀ z : Int, (reach ss d k z ∨ (r.y - d ≤ z ∧ z < r.y - d + ((j + 1 : Nat) : Int))) ↔ (reach ss d k z ∨ (r.y - d ≤ z ∧ z < r.y - d + (j : Int))) ∨ z = r.y - d + (j : Int)) := hid (fun z => by
            rw [or_assoc]
            refine or_congr Iff.rfl ?_
            omega)
          by_cases hin : -8192 ≤ r.y - d + (j : Int) ∧ r.y - d + (j : Int) ≤ 8191
          · go_wp2_with (go_at_call 57; (with_reducible refine (in_t _ _ _ _ (by assumption)).mono ?_); rintro e w' ⟨rfl, rfl⟩)
            (with_reducible refine (put_any v zs (r.y - d + (j : Int)) w.heap.size _ HJ.out.2.1.size HJ.out.1 hlen).mono ?_); rintro e w3 ⟨v', res, rfl, ho, hg, hp⟩
            have HL1 := hid (show OwnI w3 w.heap.size v' res ∧ Below w.heap.size w w3 ∧ RowsD (fun y => reach ss d k y ∨ (r.y - d ≤ y ∧ y < r.y - d + ((j + 1 : Nat) : Int))) (129 * k + (j + 1)) res from ⟨ho, HJ.out.2.1.grown hg.g HJ.out.2.1.size (fun j hj => (HJ.out.1.ge j hj).1), HJ.out.2.2.put hin hp hq.out⟩)
            clear ho hg hp c0 c1 c2
            go_wp2_with fail
            go_roundw
            case rel => exact ⟨j + 1, v', res, rfl, by omega, by go_num, HL1⟩
            case measure => simp [intOf]; omega
          · have HL1 := hid (HJ.out.2.2.pass hin hq.out)
            go_wp2_with (go_at_call 57; (with_reducible refine (in_f _ _ _ _ (by assumption)).mono ?_); rintro e w' ⟨rfl, rfl⟩)
            go_roundw
            case rel => exact ⟨j + 1, v, zs, rfl, by omega, by go_num, hid ⟨HJ.out.1, HJ.out.2.1, HL1.out⟩⟩
            case measure => simp [intOf]; omega
        · obtain rfl : j = 2 * d + 1 := by omega
          have hgt : r.y + d < r.y - d + ((2 * d + 1 : Nat) : Int) := by omega
          obtain ⟨w3, rfl⟩ : ∃ w3, w3 = wr := ⟨_, rfl⟩
          have HL1 := hid (show OwnI w3 w.heap.size v zs ∧ Below w.heap.size w w3 ∧ RowsD (reach ss d (k + 1)) (129 * (k + 1)) zs from ⟨HJ.out.1, HJ.out.2.1, HJ.out.2.2.of (fun z => by
            rw [HRN.out]
            refine or_congr Iff.rfl ?_
            unfold near_
            omega) (by omega)⟩)
          clear HL
          go_wp2_with fail
          go_roundw
          case rel => exact ⟨k + 1, v, zs, rfl, by omega, by go_num, HL1⟩
          case measure => simp [intOf]; omega
    · obtain ⟨w5, rfl⟩ : ∃ w5, w5 = wr := ⟨_, rfl⟩
      have HK := hid (show k = n by omega)
      obtain ⟨A8, c8, hv8, -, -, hi8⟩ := HL.out.1.is
      obtain ⟨R, hR⟩ : ∃ R, R = zs.length := ⟨_, rfl⟩
      rw [← hR] at hv8
      have HRR := hid hR
      have HI8 := hid hi8
      have HZ := hid (show RowsD (reach ss d ss.length) (129 * n) zs by rw [← HN.out, ← HK.out]; exact HL.out.2.2)
      have HBr := hid HL.out.2.1
      have HRN : Hid (R ≤ 129 * n) := hid (by rw [hR]; exact HZ.out.n)
      have hR4 : R ≤ 38700 := by have := HRN.out; omega
      clear hR hi8 HL
      subst hv8
      go_wp2_with fail
      go_loopw [8, 47] (fun s7 s28 wx => E2R (dilB ss d) (2 * n) zs R w5 s7 s28 wx) (fun _ s28 _ => R - (intOf s28).toNat)
      case atStart => exact ⟨0, _, [], rfl, Nat.zero_le _, rfl, hid ⟨OwnR.nil _ _, Below.refl _ _, RF.start⟩⟩
      case round =>
        obtain ⟨i, v, out, hv, hiR, rfl, HL⟩ := hrel
        obtain ⟨wx, rfl⟩ : ∃ wx, wx = wr := ⟨_, rfl⟩
        have hv' := hv.symm
        clear hv
        subst hv'
        by_cases hlt2 : i < R
        · have hiz : i < zs.length := by rw [← HRR.out]; exact hlt2
          obtain ⟨g8, hg8, -, hc8⟩ := (HI8.out.next HL.out.2.1).at_ hiz
          cases hg8
          have HYI := hid (show zs[i]? = some zs[i] from List.getElem?_eq_getElem hiz)
          have HYR : Hid (∃ r ∈ ss, near_ d zs[i] r) := hid (by
            obtain ⟨-, r, hr, e⟩ := (HZ.out.m _).1 (List.getElem_mem hiz)
            exact ⟨r, List.mem_of_mem_take hr, e⟩)
          have hy12 := ((HZ.out.m _).1 (List.getElem_mem hiz)).1
          generalize zs[i] = y at hc8 HYI HYR hy12
          obtain ⟨hy1, hy2⟩ := hy12
          go_wp2_with fail
          go_loopw [11, 53] (fun s10 s34 wy => E3R (near_ d y) (fun r => max (r.a - d) (-8192)) (fun r => min (r.b + d) 8192) ss n wx s10 s34 wy) (fun _ s34 _ => n - (intOf s34).toNat)
          case atStart => exact ⟨0, _, [], rfl, Nat.zero_le _, rfl, hid ⟨OwnI.nil _ _, Below.refl _ _, BordG.start _ _ _ _⟩⟩
          case round =>
            obtain ⟨q, vb, bs, hv, hqN, rfl, HL3⟩ := hrel
            obtain ⟨wy, rfl⟩ : ∃ wy, wy = wr := ⟨_, rfl⟩
            have hv' := hv.symm
            clear hv
            subst hv'
            by_cases hlt3 : q < n
            · have hlz3 : q < ss.length := by rw [← HN.out]; exact hlt3
              obtain ⟨a, ha7, hal, hsa⟩ := ((HS.out.next HBr.out).next (HL.out.2.1.trans (HL3.out.2.1.mono HL.out.2.1.size))).at_ hlz3
              have HNY := hid (fun r1 r2 (h0 : near_ d y ss[q]) (h1 : PutOf bs (max (ss[q].a - d) (-8192)) r1) (h2 : PutOf r1 (min (ss[q].b + d) 8192) r2) => HL3.out.2.2.next hlz3 h0 h1 h2)
              have HNS := hid (fun (h0 : ¬ near_ d y ss[q]) => HL3.out.2.2.skip hlz3 h0)
              have hrin := (rnok_iff.1 ((chk_all HC.out).1 _ (List.getElem_mem hlz3))).1
              generalize ss[q] = r at hsa HNY HNS hrin
              obtain ⟨c0, c1, c2⟩ := hsa
              obtain ⟨⟨ry1, ry2⟩, ⟨ra1, ra2⟩, rb1, rb2⟩ := hrin
              subst ha7
              have HALT := hid (show a.block < w.heap.size ∨ wx.heap.size ≤ a.block → a.block < w.heap.size by
                intro _
                obtain ⟨a2, ha2, hl2, -⟩ := HS.out (by intro e2; rw [e2] at hlz3; simp at hlz3)
                cases ha2
                exact hl2)
              by_cases hry : y - d ≤ r.y ∧ r.y ≤ y + d
              · have HNY1 := hid (fun r1 r2 => HNY.out r1 r2 hry)
                clear HNY HNS
                have hkb : (a.add (q * 3)).block < wy.heap.size := by rw [add_block]; exact hal
                have HKN : Hid (vb.ownBlock ≠ some (a.add (q * 3)).block) := hid (fun e => by
                  have h1 := (HL3.out.1.ge _ e).1
                  have h3 := Nat.le_trans HBr.out.size HL.out.2.1.size
                  rw [add_block] at h1
                  have h4 := HALT.out (.inr h1)
                  omega)
                go_upto_region 20 with (go_at_call 57; (with_reducible refine (in_t _ _ _ _ (by assumption)).mono ?_); rintro e w' ⟨rfl, rfl⟩)
                have e1 : IntKind.i64.wrap (r.a - d) = r.a - d := IntWalk.i64_in _ (by omega)
                have e2 : IntKind.i64.wrap (r.b + d) = r.b + d := IntWalk.i64_in _ (by omega)
                go_region_held3 (fun w' => w'.cell? ⟨(a.add (q * 3)).block, (a.add (q * 3)).off + 1, none⟩ = some (.int .i64 r.a) ∧ w'.cell? ⟨(a.add (q * 3)).block, (a.add (q * 3)).off + 2, none⟩ = some (.int .i64 r.b))
                  (first
                    | go_keep
                    | (refine ⟨?_, ?_⟩
                       · (first | exact (hg1.trans hg2).cellk hkb HKN.out c1 | exact hg1.cellk hkb HKN.out c1)
                       · (first | exact (hg1.trans hg2).cellk hkb HKN.out c2 | exact hg1.cellk hkb HKN.out c2)))
                  (first
                    | (go_at_call_of 67 vb; refine (put_any vb bs (max (r.a - d) (-8192)) wx.heap.size wy.drew HL3.out.2.1.size HL3.out.1 (by have := HL3.out.2.2.n; omega)).mono ?_; rintro e wz ⟨v61, r1, rfl, ho1, hg1, hp1⟩)
                    | (go_at_call_of 67 v61; refine (put_any v61 r1 (min (r.b + d) 8192) wx.heap.size wz (Nat.le_trans HL3.out.2.1.size hg1.size) ho1 (by have := HL3.out.2.2.n; have := hp1.len; omega)).mono ?_; rintro e wz2 ⟨v67, r2, rfl, ho2, hg2, hp2⟩))
                all_goals
                  have HG := hid (hg1.trans hg2)
                  have HL4 := hid (show OwnI wz2 wx.heap.size v67 r2 ∧ Below wx.heap.size wx wz2 ∧ BordG (near_ d y) (fun r => max (r.a - d) (-8192)) (fun r => min (r.b + d) 8192) ss (q + 1) r2 from ⟨ho2, (HL3.out.2.1.drew).trans (HG.out.below (by exact HL3.out.2.1.size) (fun j hj => (HL3.out.1.ge j hj).1)), HNY1.out r1 r2 hp1 hp2⟩)
                  clear ho1 ho2 hg1 hg2 hp1 hp2 c0 c1 c2 HNY1 e1 e2
                  go_wp2_with fail
                  go_roundw
                  case rel => exact ⟨q + 1, v67, r2, rfl, by omega, by go_num, HL4⟩
                  case measure => simp [intOf]; omega
              · have HNS1 := hid (HNS.out hry)
                have HL4 := hid (show OwnI wy wx.heap.size vb bs ∧ Below wx.heap.size wx wy ∧ BordG (near_ d y) (fun r => max (r.a - d) (-8192)) (fun r => min (r.b + d) 8192) ss (q + 1) bs from ⟨HL3.out.1, HL3.out.2.1, HNS1.out⟩)
                clear HNY HNS HNS1
                go_wp2_with (go_at_call 57; (with_reducible refine (in_f _ _ _ _ (by assumption)).mono ?_); rintro e w' ⟨rfl, rfl⟩)
                go_roundw
                case rel => exact ⟨q + 1, vb, bs, rfl, by omega, by go_num, HL4⟩
                case measure => simp [intOf]; omega
            · obtain ⟨w6, rfl⟩ : ∃ w6, w6 = wy := ⟨_, rfl⟩
              have HQN := hid (show q = n by omega)
              obtain ⟨A13, c13, hv13, -, -, hi13⟩ := HL3.out.1.is
              obtain ⟨S, hS⟩ : ∃ S, S = bs.length := ⟨_, rfl⟩
              rw [← hS] at hv13
              have HSS := hid hS
              have HBG := hid (show BordG (near_ d y) (fun r => max (r.a - d) (-8192)) (fun r => min (r.b + d) 8192) ss ss.length bs from by rw [← HN.out, ← HQN.out]; exact HL3.out.2.2)
              have HBD := hid (bord_dil ⟨hy1, hy2⟩ HBG.out)
              have HSN := hid (show S ≤ 2 * n by rw [hS, ← HQN.out]; exact HL3.out.2.2.n)
              have HI13 := hid hi13
              have HO6 := hid (HL.out.1.next HL3.out.2.1)
              have HB6 := hid (HL.out.2.1.trans (HL3.out.2.1.mono HL.out.2.1.size))
              have HNE6 : Hid (∀ g, A13 = some ⟨g, 0, none⟩ → v.ownBlock ≠ some g) := hid (fun g hg e => by
                have h1 := (HL.out.1.ge g e).2
                have h2 := (HL3.out.1.ge g (by rw [hv13, hg]; rfl)).1
                omega)
              have hS2 : 1 ≤ S := by
                obtain ⟨r, hr, e⟩ := HYR.out
                have ha := (HBG.out.m (max (r.a - d) (-8192))).2 ⟨r, by rw [List.take_length]; exact hr, e, .inl rfl⟩
                rw [HSS.out]
                exact List.length_pos_of_mem ha
              have HBB : Hid (∀ b ∈ bs, -8192 ≤ b ∧ b ≤ 8192) := hid (fun b hb => by
                obtain ⟨r, hr, e1, e2⟩ := (HBG.out.m b).1 hb
                have := rnok_iff.1 ((chk_all HC.out).1 r (List.mem_of_mem_take hr))
                omega)
              have HJ := hid (HL.out.2.2.begin (fun z hz => by
                obtain ⟨j, hj, rfl⟩ := List.getElem_of_mem hz
                have hji : j < i := by rw [List.length_take] at hj; omega
                rw [List.getElem_take]
                have hjl : j < zs.length := by rw [List.length_take] at hj; omega
                have h1 := sorted_lt HZ.out.s hjl hiz hji
                have h2 := HYI.out
                rw [List.getElem?_eq_getElem hiz] at h2
                have h3 := Option.some.inj h2
                omega) HBD.out (by rw [← HSS.out]; omega))
              have hS3 : S ≤ 80000 := by have := HSN.out; omega
              subst hv13
              clear hS hi13 HL3 HYR
              go_wp2_with fail
              go_loopw [8, 13] (fun s7 s12 wy => E4R (dilB ss d) (2 * n) (zs.take i) y bs S A13 w5 s7 s12 wy) (fun _ s12 _ => S - (intOf s12).toNat)
              case atStart => exact ⟨0, v, out, rfl, by omega, rfl, hid ⟨HO6.out, HB6.out, HJ.out, HI13.out, HNE6.out⟩⟩
              case round =>
                obtain ⟨j, v2, out2, hv, hjS, rfl, HL5⟩ := hrel
                have hv' := hv.symm
                clear hv
                subst hv'
                obtain ⟨w7, rfl⟩ : ∃ w7, w7 = wr := ⟨_, rfl⟩
                by_cases hlt4 : j + 1 < S
                · have hj0 : j < bs.length := by rw [← HSS.out]; omega
                  have hj1 : j + 1 < bs.length := by rw [← HSS.out]; exact hlt4
                  obtain ⟨g13, hg13, hl13, d0⟩ := HL5.out.2.2.2.1.at_ hj0
                  subst hg13
                  obtain ⟨g13', hg13', -, d1⟩ := HL5.out.2.2.2.1.at_ hj1
                  cases hg13'
                  have HSK := hid (fun h => HL5.out.2.2.1.skip HBD.out hj1 h)
                  have HJN := hid (fun h => HL5.out.2.2.1.join HBD.out hj1 (fun x y h => (dil_iff.1 h).1) h)
                  have hbb := HBB.out _ (List.getElem_mem hj0)
                  have hbb1 := HBB.out _ (List.getElem_mem hj1)
                  have hlt01 := sorted_lt HBD.out.s hj0 hj1 (Nat.lt_succ_self j)
                  generalize bs[j] = b0 at d0 HSK HJN hbb hlt01
                  generalize bs[j + 1] = b1 at d1 HJN hbb1 hlt01
                  have HPB : Hid (dilB ss d b0 y = ss.any (nearR d b0 y)) := hid (by unfold dilB; rw [decide_eq_true (show Perm b0 y by unfold Perm; omega), Bool.true_and])
                  have hsum : IntKind.i64.wrap ((j : Int) + 1) = ((j + 1 : Nat) : Int) := IntWalk.i64_in _ (by omega)
                  have hout : out2.length ≤ 5000000000 := by
                    have h1 := HL5.out.2.2.1.n
                    have h2 : (zs.take i).length ≤ 38700 := by rw [List.length_take]; omega
                    have h3 := Nat.mul_le_mul_right (2 * n) h2
                    omega
                  have hj1' : (j : Int) < (S : Int) := by omega
                  go_wp2_with fail
                  go_loopw [14, 97] (fun s14 s97 wr => D6R ss d n b0 y w7 s14 s97 wr) (fun _ s97 _ => n - (intOf s97).toNat)
                  case atStart => exact ⟨0, Nat.zero_le _, rfl, rfl, hid (Below.refl _ _)⟩
                  case round =>
                  obtain ⟨t, ht, rfl, hv, HW⟩ := hrel
                  obtain ⟨b, hb⟩ : ∃ b, b = (ss.take t).any (nearR d b0 y) := ⟨_, rfl⟩
                  rw [← hb] at hv
                  subst hv
                  obtain ⟨w8, rfl⟩ : ∃ w8, w8 = wr := ⟨_, rfl⟩
                  have hl13' : g13 < w8.heap.size := Nat.lt_of_lt_of_le hl13 HW.out.size
                  replace d0 := (HW.out.cell (p := ⟨g13, j, none⟩) hl13).trans d0
                  replace d1 := (HW.out.cell (p := ⟨g13, j + 1, none⟩) hl13).trans d1
                  by_cases hltt : t < n
                  · have hlzt : t < ss.length := by rw [← HN.out]; exact hltt
                    obtain ⟨a, ha7, hal, hsa⟩ := (HS.out.next (HBr.out.trans ((HL5.out.2.1.trans (HW.out.mono HL5.out.2.1.size)).mono HBr.out.size))).at_ hlzt
                    have hp1 := hid (any_take (f := nearR d b0 y) hlzt)
                    have HB := hid hb
                    have hrin := (rnok_iff.1 ((chk_all HC.out).1 _ (List.getElem_mem hlzt))).1
                    clear hb
                    generalize ss[t] = r at hsa hp1 hrin
                    obtain ⟨c0, c1, c2⟩ := hsa
                    obtain ⟨⟨ry1, ry2⟩, ⟨ra1, ra2⟩, rb1, rb2⟩ := hrin
                    subst ha7
                    cases b
                    · by_cases h1 : y - d ≤ r.y ∧ r.y ≤ y + d
                      · by_cases h2 : r.a - d ≤ b0
                        · by_cases h3 : b0 < r.b + d
                          · have HE := hid (hp1.out.trans (by rw [← HB.out, show nearR d b0 y r = true from decide_eq_true ⟨h1, h2, h3⟩, Bool.false_or]))
                            have e1 : IntKind.i64.wrap (r.a - d) = r.a - d := IntWalk.i64_in _ (by omega)
                            have e2 : IntKind.i64.wrap (r.b + d) = r.b + d := IntWalk.i64_in _ (by omega)
                            have e3 : IntKind.i64.wrap (y - d) = y - d := IntWalk.i64_in _ (by omega)
                            have e4 : IntKind.i64.wrap (y + d) = y + d := IntWalk.i64_in _ (by omega)
                            clear hp1 HB
                            go_upto_region 29 with fail
                            go_quiet (first | (go_at_call 57; exact in_tq _ _ _ _ _ (by assumption)))
                            have HBq := hid (below_drewN (Below.refl w8.heap.size w8) nq)
                            generalize World.drewN w8 _ = w9 at HBq ⊢
                            have HW9 := hid (HW.out.trans (HBq.out.mono HW.out.size))
                            clear e1 e2 e3 e4 c0 c1 c2
                            go_wp2_with fail
                            go_roundw
                            case rel => exact ⟨t + 1, by omega, by go_num, by rw [HE.out], HW9⟩
                            case measure => simp [intOf]; omega
                          · have HE := hid (hp1.out.trans (by rw [← HB.out, show nearR d b0 y r = false from decide_eq_false (fun k => h3 k.2.2), Bool.false_or]))
                            have h3' : decide (b0 < r.b + d) = false := decide_eq_false h3
                            have e1 : IntKind.i64.wrap (r.a - d) = r.a - d := IntWalk.i64_in _ (by omega)
                            have e2 : IntKind.i64.wrap (r.b + d) = r.b + d := IntWalk.i64_in _ (by omega)
                            have e3 : IntKind.i64.wrap (y - d) = y - d := IntWalk.i64_in _ (by omega)
                            have e4 : IntKind.i64.wrap (y + d) = y + d := IntWalk.i64_in _ (by omega)
                            clear hp1 HB
                            go_upto_region 29 with fail
                            go_quiet (first | (go_at_call 57; exact in_tq _ _ _ _ _ (by assumption)))
                            have HBq := hid (below_drewN (Below.refl w8.heap.size w8) nq)
                            generalize World.drewN w8 _ = w9 at HBq ⊢
                            have HW9 := hid (HW.out.trans (HBq.out.mono HW.out.size))
                            clear e1 e2 e3 e4 c0 c1 c2
                            go_wp2_with fail
                            go_roundw
                            case rel => exact ⟨t + 1, by omega, by go_num, by rw [HE.out], HW9⟩
                            case measure => simp [intOf]; omega
                        · have HE := hid (hp1.out.trans (by rw [← HB.out, show nearR d b0 y r = false from decide_eq_false (fun k => h2 k.2.1), Bool.false_or]))
                          have h2' : decide (r.a - d ≤ b0) = false := decide_eq_false h2
                          have e1 : IntKind.i64.wrap (r.a - d) = r.a - d := IntWalk.i64_in _ (by omega)
                          have e2 : IntKind.i64.wrap (r.b + d) = r.b + d := IntWalk.i64_in _ (by omega)
                          have e3 : IntKind.i64.wrap (y - d) = y - d := IntWalk.i64_in _ (by omega)
                          have e4 : IntKind.i64.wrap (y + d) = y + d := IntWalk.i64_in _ (by omega)
                          clear hp1 HB
                          go_upto_region 29 with fail
                          go_quiet (first | (go_at_call 57; exact in_tq _ _ _ _ _ (by assumption)))
                          have HBq := hid (below_drewN (Below.refl w8.heap.size w8) nq)
                          generalize World.drewN w8 _ = w9 at HBq ⊢
                          have HW9 := hid (HW.out.trans (HBq.out.mono HW.out.size))
                          clear e1 e2 e3 e4 c0 c1 c2
                          go_wp2_with fail
                          go_roundw
                          case rel => exact ⟨t + 1, by omega, by go_num, by rw [HE.out], HW9⟩
                          case measure => simp [intOf]; omega
                      · have HE := hid (hp1.out.trans (by rw [← HB.out, show nearR d b0 y r = false from decide_eq_false (fun k => h1 k.1), Bool.false_or]))
                        have e1 : IntKind.i64.wrap (r.a - d) = r.a - d := IntWalk.i64_in _ (by omega)
                        have e2 : IntKind.i64.wrap (r.b + d) = r.b + d := IntWalk.i64_in _ (by omega)
                        have e3 : IntKind.i64.wrap (y - d) = y - d := IntWalk.i64_in _ (by omega)
                        have e4 : IntKind.i64.wrap (y + d) = y + d := IntWalk.i64_in _ (by omega)
                        clear hp1 HB
                        go_upto_region 29 with fail
                        go_quiet (first | (go_at_call 57; exact in_fq _ _ _ _ _ (by assumption)))
                        have HBq := hid (below_drewN (Below.refl w8.heap.size w8) nq)
                        generalize World.drewN w8 _ = w9 at HBq ⊢
                        have HW9 := hid (HW.out.trans (HBq.out.mono HW.out.size))
                        clear e1 e2 e3 e4 c0 c1 c2
                        go_wp2_with fail
                        go_roundw
                        case rel => exact ⟨t + 1, by omega, by go_num, by rw [HE.out], HW9⟩
                        case measure => simp [intOf]; omega
                    · have HE := hid (hp1.out.trans (by rw [← HB.out, Bool.true_or]))
                      have e1 : IntKind.i64.wrap (r.a - d) = r.a - d := IntWalk.i64_in _ (by omega)
                      have e2 : IntKind.i64.wrap (r.b + d) = r.b + d := IntWalk.i64_in _ (by omega)
                      have e3 : IntKind.i64.wrap (y - d) = y - d := IntWalk.i64_in _ (by omega)
                      have e4 : IntKind.i64.wrap (y + d) = y + d := IntWalk.i64_in _ (by omega)
                      clear hp1 HB
                      go_upto_region 29 with fail
                      go_quiet (fail)
                      have HBq := hid (below_drewN (Below.refl w8.heap.size w8) nq)
                      generalize World.drewN w8 _ = w9 at HBq ⊢
                      have HW9 := hid (HW.out.trans (HBq.out.mono HW.out.size))
                      clear e1 e2 e3 e4 c0 c1 c2
                      go_wp2_with fail
                      go_roundw
                      case rel => exact ⟨t + 1, by omega, by go_num, by rw [HE.out], HW9⟩
                      case measure => simp [intOf]; omega
                  · obtain ⟨P, hP⟩ : ∃ P, P = dilB ss d b0 y := ⟨_, rfl⟩
                    have hbP : b = P := by rw [hb, hP, HPB.out, List.take_of_length_le (by rw [← HN.out]; omega)]
                    subst hbP
                    have HP := hid hP.symm
                    rw [HP.out] at HSK HJN
                    have HO8 := hid (HL5.out.1.next HW.out)
                    have HB8 := hid (HL5.out.2.1.trans (HW.out.mono HL5.out.2.1.size))
                    have HI8' := hid (HL5.out.2.2.2.1.next HW.out)
                    have HNE8 := hid (HL5.out.2.2.2.2 g13 rfl)
                    have HJ8 := hid HL5.out.2.2.1
                    clear hb hP HL5 hbb hbb1 hlt01
                    cases b
                    · have HJ9 := hid (HSK.out rfl)
                      have HL9 := hid (show OwnR w8 w5.heap.size v2 out2 ∧ Below w5.heap.size w5 w8 ∧ JF (dilB ss d) (zs.take i) (2 * n) y bs (j + 1) out2 ∧ Ints w8 (some ⟨g13, 0, none⟩) bs ∧ (∀ g, (some ⟨g13, 0, none⟩ : Option Addr) = some ⟨g, 0, none⟩ → v2.ownBlock ≠ some g) from ⟨HO8.out, HB8.out, HJ9.out, HI8'.out, fun g hg => by cases hg; exact HNE8.out⟩)
                      clear HJN HSK d0 d1 hsum
                      go_wp2_with fail
                      go_roundw
                      case rel => exact ⟨j + 1, v2, out2, rfl, by omega, by go_num, HL9⟩
                      case measure => simp [intOf]; omega
                    · have HJ9 := hid (HJN.out rfl)
                      clear HJN HSK
                      have HWB : Hid (w5.heap.size ≤ w8.heap.size) := hid HB8.out.size
                      have hi0 : (0 : Int) ≤ (j : Int) := Int.natCast_nonneg _
                      have hi1 : (j : Int) < (S : Int) := by omega
                      have hi2 : (0 : Int) ≤ ((j + 1 : Nat) : Int) := Int.natCast_nonneg _
                      have hi3 : ((j + 1 : Nat) : Int) < (S : Int) := by omega
                      have hi4 : (0 : Int) ≤ (j : Int) + 1 := by omega
                      have hi5 : (j : Int) + 1 < (S : Int) := by omega
                      go_upto_region 32 with fail
                      go_region_held3 (fun w' => w'.cell? ⟨g13, j, none⟩ = some (.int .i64 b0) ∧ w'.cell? ⟨g13, j + 1, none⟩ = some (.int .i64 b1))
                        (first
                          | go_keep
                          | (refine ⟨?_, ?_⟩
                             · exact hg9.cellk hl13' HNE8.out d0
                             · exact hg9.cellk hl13' HNE8.out d1))
                        (first
                          | (go_at_call 68; refine (joined_any v2 out2 y b0 b1 w5.heap.size w8.drew HWB.out HO8.out hout).mono ?_; rintro e wz ⟨v3, rfl, ho9, hg9⟩))
                      clear hsum hi0 hi1 hi2 hi3 hi4 hi5
                      have HG := hid hg9
                      have HL9 := hid (show OwnR wz w5.heap.size v3 (joinR out2 y b0 b1) ∧ Below w5.heap.size w5 wz ∧ JF (dilB ss d) (zs.take i) (2 * n) y bs (j + 1) (joinR out2 y b0 b1) ∧ Ints wz (some ⟨g13, 0, none⟩) bs ∧ (∀ g, (some ⟨g13, 0, none⟩ : Option Addr) = some ⟨g, 0, none⟩ → v3.ownBlock ≠ some g) from
                        ⟨ho9, HB8.out.drew.trans (HG.out.below HWB.out (fun k hk => (HO8.out.ge k hk).1)), HJ9.out, fun hn => by
                          obtain ⟨g, e, hl, hc⟩ := HI8'.out hn
                          cases e
                          exact ⟨g13, rfl, Nat.lt_of_lt_of_le hl HG.out.size, fun i z hz => HG.out.cellk hl HNE8.out (hc i z hz)⟩, fun g hg e => by
                          cases hg
                          rcases HG.out.o _ e with h | h
                          · exact HNE8.out h
                          · have : w8.heap.size ≤ g13 := h
                            omega⟩)
                      clear ho9 hg9 d0 d1
                      go_wp2_with fail
                      go_roundw
                      case rel => exact ⟨j + 1, v3, joinR out2 y b0 b1, rfl, by omega, by go_num, HL9⟩
                      case measure => simp [intOf]; omega
                · have hjj : ¬ (j : Int) + 1 < (S : Int) := by omega
                  have HRI := hid (show RF (dilB ss d) (zs.take (i + 1)) (2 * n) out2 by
                    have h1 := HL5.out.2.2.1.finish HBD.out (by rw [← HSS.out]; omega) (by have := HSN.out; omega)
                    have h2 := HYI.out
                    rw [List.getElem?_eq_getElem hiz] at h2
                    rw [List.take_succ_eq_append_getElem hiz, Option.some.inj h2]
                    exact h1)
                  have HL9 := hid (show OwnR w7 w5.heap.size v2 out2 ∧ Below w5.heap.size w5 w7 ∧ RF (dilB ss d) (zs.take (i + 1)) (2 * n) out2 from ⟨HL5.out.1, HL5.out.2.1, HRI.out⟩)
                  clear hlt4
                  go_wp2_with fail
                  go_roundw
                  case rel => exact ⟨i + 1, v2, out2, rfl, by omega, by go_num, HL9⟩
                  case measure => simp [intOf]; omega
        · have HIR := hid (show i = R by omega)
          have HF := hid (show RefRes (Dil ss d) (129 * n * (2 * n)) w (.returned v) wx from ⟨v, out, rfl, (HL.out.1.mono HBr.out.size), dil_done HC.out (HL.out.2.2.done (fun x y h => by
            rw [HIR.out, HRR.out, List.take_length]
            obtain ⟨hpm, r, hr, e, -⟩ := dil_iff.1 h
            refine (HZ.out.m _).2 ⟨hpm.2, r, ?_, e⟩
            rw [List.take_length]
            exact hr)), HBr.out.trans (HL.out.2.1.mono HBr.out.size), by
              have h1 := HL.out.2.2.n
              have h2 : (zs.take i).length ≤ 129 * n := by rw [List.length_take]; have := HRN.out; omega
              exact Nat.le_trans h1 (Nat.mul_le_mul_right _ h2)⟩)
          go_wp2_with fail
          go_ret
          exact HF.out

end Go.Proofs.Ytldbpabnfjnpbaa
