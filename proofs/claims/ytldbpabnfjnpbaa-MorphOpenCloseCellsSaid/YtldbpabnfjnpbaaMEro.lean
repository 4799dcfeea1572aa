/- The reference's Eroded. -/
import Derived.Test.YtldbpabnfjnpbaaMBor
import Derived.Deep.RegionHeld3
import Derived.Deep.CutBlock
namespace Go.Proofs.Ytldbpabnfjnpbaa
open Go Go.RowKit
set_option linter.unusedVariables false
set_option linter.unusedSimpArgs false

/-- A row of runs that the call made. -/
def RefRes (P : List Rn → Prop) (M : Nat) (w : World) (e : Ending) (w' : World) : Prop := ∃ v res, e = .returned v ∧ OwnR w' w.heap.size v res ∧ P res ∧ Below w.heap.size w w' ∧ res.length ≤ M
def E1R (ss : List Rn) (n : Nat) (w : World) (s5 s15 : Value) (wr : World) : Prop := ∃ (k : Nat) (v : Value) (zs : List Int), s5 = v ∧ k ≤ n ∧ s15 = .int .i64 k ∧ Hid (OwnI wr w.heap.size v zs ∧ Below w.heap.size w wr ∧ RowsOf ss k zs)
def E2R (f : Int → Int → Bool) (M : Nat) (zs : List Int) (R : Nat) (w0 : World) (s7 s28 : Value) (wr : World) : Prop := ∃ (i : Nat) (v : Value) (out : List Rn), s7 = v ∧ i ≤ R ∧ s28 = .int .i64 i ∧ Hid (OwnR wr w0.heap.size v out ∧ Below w0.heap.size w0 wr ∧ RF f (zs.take i) M out)
def E3R (p : Rn → Prop) (g h : Rn → Int) (ss : List Rn) (n : Nat) (w3 : World) (s10 s34 : Value) (wr : World) : Prop := ∃ (k : Nat) (v : Value) (bs : List Int), s10 = v ∧ k ≤ n ∧ s34 = .int .i64 k ∧ Hid (OwnI wr w3.heap.size v bs ∧ Below w3.heap.size w3 wr ∧ BordG p g h ss k bs)
def E4R (f : Int → Int → Bool) (M : Nat) (R0 : List Int) (y : Int) (bs : List Int) (S : Nat) (A10 : Option Addr) (w0 : World) (s7 s12 : Value) (wr : World) : Prop := ∃ (k : Nat) (v : Value) (out : List Rn), s7 = v ∧ k + 1 ≤ S ∧ s12 = .int .i64 k ∧
  Hid (OwnR wr w0.heap.size v out ∧ Below w0.heap.size w0 wr ∧ JF f R0 M y bs k out ∧ Ints wr A10 bs ∧ ∀ g, A10 = some ⟨g, 0, none⟩ → v.ownBlock ≠ some g)
theorem RowsOf.room {ss : List Rn} {k : Nat} {zs : List Int} (h : RowsOf ss k zs) (hc : chk ss = 0) : zs.length ≤ 16384 := by
  have := sorted_room h.s (lo := -8192) (hi := 8191) (fun z hz => by
    obtain ⟨r, hr, e⟩ := (h.m z).1 hz
    have := rnok_iff.1 ((chk_all hc).1 r (List.mem_of_mem_take hr))
    omega)
  omega

set_option maxHeartbeats 8000000 in
set_option maxRecDepth 100000 in
theorem eroded_any (A : Option Addr) (ss : List Rn) (n c d : Nat) (w : World) (hn : n = ss.length) (hnb : n ≤ 40000) (hs : Runs w A ss) (hc : chk ss = 0) (hd : d ≤ 64) :
    Calls Try.prog 42 #[.slice A n c, .int .i64 d] w (RefRes (Ero ss d) (n * (2 * n)) w) := by
  have HS := hid hs
  have HN := hid hn
  have HC := hid hc
  clear hs hn hc
  go_enter Try.func42, Try.ntmps42
  go_wp2_with fail
  go_loopw [5, 15] (fun s5 s15 wr => E1R ss n w s5 s15 wr) (fun _ s15 _ => n - (intOf s15).toNat)
  case atStart => exact ⟨0, _, [], rfl, Nat.zero_le _, rfl, hid ⟨OwnI.nil _ _, Below.refl _ _, RowsOf.start _⟩⟩
  case round =>
    obtain ⟨k, v, zs, hv, hkN, rfl, HL⟩ := hrel
    have hv' := hv.symm
    clear hv
    subst hv'
    by_cases hlt : k < n
    · have hlz : k < ss.length := by rw [← HN.out]; exact hlt
      obtain ⟨a, rfl, hal, hsa⟩ := (HS.out.next HL.out.2.1).at_ hlz
      have HNX := hid (fun res (h : PutOf zs ss[k].y res) => HL.out.2.2.next hlz h)
      generalize ss[k] = r at hsa HNX
      obtain ⟨c0, c1, c2⟩ := hsa
      go_wp2_with fail
      (with_reducible refine (put_any v zs r.y w.heap.size _ HL.out.2.1.size HL.out.1 (by have := HL.out.2.2.n; omega)).mono ?_); rintro e w3 ⟨v', res, rfl, ho, hg, hp⟩
      have HL1 := hid (show OwnI w3 w.heap.size v' res ∧ Below w.heap.size w w3 ∧ RowsOf ss (k + 1) res from ⟨ho, HL.out.2.1.grown hg.g HL.out.2.1.size (fun j hj => (HL.out.1.ge j hj).1), HNX.out res hp⟩)
      clear ho hg hp c0 c1 c2 HNX
      go_wp2_with fail
      go_roundw
      case rel => exact ⟨k + 1, v', res, rfl, by omega, by go_num, HL1⟩
      case measure => simp [intOf]; omega
    · obtain ⟨w5, rfl⟩ : ∃ w5, w5 = wr := ⟨_, rfl⟩
      have HK := hid (show k = n by omega)
      obtain ⟨A8, c8, hv8, -, -, hi8⟩ := HL.out.1.is
      obtain ⟨R, hR⟩ : ∃ R, R = zs.length := ⟨_, rfl⟩
      rw [← hR] at hv8
      have HRR := hid hR
      have HI8 := hid hi8
      have HZ := hid (HK.out ▸ HL.out.2.2)
      have HBr := hid HL.out.2.1
      have hR4 : R ≤ 16384 := by rw [hR]; exact HZ.out.room HC.out
      have HRN : Hid (R ≤ n) := hid (by rw [hR]; exact HZ.out.n)
      clear hR hi8 HL
      subst hv8
      go_wp2_with fail
      go_loopw [7, 28] (fun s7 s28 wx => E2R (fun x y => aroB ss x y d) (2 * n) zs R w5 s7 s28 wx) (fun _ s28 _ => R - (intOf s28).toNat)
      case atStart => exact ⟨0, _, [], rfl, Nat.zero_le _, rfl, hid ⟨OwnR.nil _ _, Below.refl _ _, RF.start⟩⟩
      case round =>
        obtain ⟨i, v, out, hv, hiR, rfl, HL⟩ := hrel
        obtain ⟨wx, rfl⟩ : ∃ wx, wx = wr := ⟨_, rfl⟩
        have hv' := hv.symm
        clear hv
        subst hv'
        by_cases hlt2 : i < R
        · have hiz : i < zs.length := by rw [← HRR.out]; exact hlt2
          obtain ⟨g8, hg8, -, hc8⟩ := (HI8.out.next HL.out.2.1).at_ hiz
          cases hg8
          have HYI := hid (show zs[i]? = some zs[i] from List.getElem?_eq_getElem hiz)
          have HYR : Hid (∃ r ∈ ss, r.y = zs[i]) := hid (by
            obtain ⟨r, hr, e⟩ := (HZ.out.m _).1 (List.getElem_mem hiz)
            exact ⟨r, List.mem_of_mem_take hr, e⟩)
          generalize zs[i] = y at hc8 HYI HYR
          obtain ⟨hy1, hy2⟩ : -8192 ≤ y ∧ y ≤ 8191 := by
            obtain ⟨r, hr, e⟩ := HYR.out
            have := rnok_iff.1 ((chk_all HC.out).1 r hr)
            omega
          go_wp2_with fail
          go_loopw [10, 34] (fun s10 s34 wy => E3R (near_ d y) (fun r => r.a + d) (fun r => r.b - d) ss n wx s10 s34 wy) (fun _ s34 _ => n - (intOf s34).toNat)
          case atStart => exact ⟨0, _, [], rfl, Nat.zero_le _, rfl, hid ⟨OwnI.nil _ _, Below.refl _ _, BordG.start _ _ _ _⟩⟩
          case round =>
            obtain ⟨q, vb, bs, hv, hqN, rfl, HL3⟩ := hrel
            obtain ⟨wy, rfl⟩ : ∃ wy, wy = wr := ⟨_, rfl⟩
            have hv' := hv.symm
            clear hv
            subst hv'
            by_cases hlt3 : q < n
            · have hlz3 : q < ss.length := by rw [← HN.out]; exact hlt3
              obtain ⟨a, ha7, hal, hsa⟩ := ((HS.out.next HBr.out).next (HL.out.2.1.trans (HL3.out.2.1.mono HL.out.2.1.size))).at_ hlz3
              have HNY := hid (fun r1 r2 (h0 : near_ d y ss[q]) (h1 : PutOf bs (ss[q].a + d) r1) (h2 : PutOf r1 (ss[q].b - d) r2) => HL3.out.2.2.next hlz3 h0 h1 h2)
              have HNS := hid (fun (h0 : ¬ near_ d y ss[q]) => HL3.out.2.2.skip hlz3 h0)
              have hrin := (rnok_iff.1 ((chk_all HC.out).1 _ (List.getElem_mem hlz3))).1
              generalize ss[q] = r at hsa HNY HNS hrin
              obtain ⟨c0, c1, c2⟩ := hsa
              obtain ⟨⟨ry1, ry2⟩, ⟨ra1, ra2⟩, rb1, rb2⟩ := hrin
              subst ha7
              have HALT := hid (show a.block < w.heap.size ∨ wx.heap.size ≤ a.block → a.block < w.heap.size by
                intro _
                obtain ⟨a2, ha2, hl2, -⟩ := HS.out (by intro e2; rw [e2] at hlz3; simp at hlz3)
                cases ha2
                exact hl2)
              by_cases hry : y - d ≤ r.y ∧ r.y ≤ y + d
              · have HNY1 := hid (fun r1 r2 => HNY.out r1 r2 hry)
                clear HNY HNS
                go_upto_region 16 with (go_at_call 57; (with_reducible refine (in_t _ _ _ _ (by assumption)).mono ?_); rintro e w' ⟨rfl, rfl⟩)
                have hkb : (a.add (q * 3)).block < wy.heap.size := by rw [add_block]; exact hal
                have HKN : Hid (vb.ownBlock ≠ some (a.add (q * 3)).block) := hid (fun e => by
                  have h1 := (HL3.out.1.ge _ e).1
                  have h3 := Nat.le_trans HBr.out.size HL.out.2.1.size
                  rw [add_block] at h1
                  have h4 := HALT.out (.inr h1)
                  omega)
                have e1 : IntKind.i64.wrap (r.a + d) = r.a + d := IntWalk.i64_in _ (by omega)
                have e2 : IntKind.i64.wrap (r.b - d) = r.b - d := IntWalk.i64_in _ (by omega)
                go_region_held3 (fun w' => w'.cell? ⟨(a.add (q * 3)).block, (a.add (q * 3)).off + 1, none⟩ = some (.int .i64 r.a) ∧ w'.cell? ⟨(a.add (q * 3)).block, (a.add (q * 3)).off + 2, none⟩ = some (.int .i64 r.b))
                  (first
                    | go_keep
                    | (refine ⟨?_, ?_⟩
                       · (first | exact (hg1.trans hg2).cellk hkb HKN.out c1 | exact hg1.cellk hkb HKN.out c1)
                       · (first | exact (hg1.trans hg2).cellk hkb HKN.out c2 | exact hg1.cellk hkb HKN.out c2)))
                  (first
                    | (go_at_call_of 67 vb; refine (put_any vb bs (r.a + d) wx.heap.size wy.drew HL3.out.2.1.size HL3.out.1 (by have := HL3.out.2.2.n; omega)).mono ?_; rintro e wz ⟨v61, r1, rfl, ho1, hg1, hp1⟩)
                    | (go_at_call_of 67 v61; refine (put_any v61 r1 (r.b - d) wx.heap.size wz (Nat.le_trans HL3.out.2.1.size hg1.size) ho1 (by have := HL3.out.2.2.n; have := hp1.len; omega)).mono ?_; rintro e wz2 ⟨v67, r2, rfl, ho2, hg2, hp2⟩))
                have HG := hid (hg1.trans hg2)
                have HL4 := hid (show OwnI wz2 wx.heap.size v67 r2 ∧ Below wx.heap.size wx wz2 ∧ BordG (near_ d y) (fun r => r.a + d) (fun r => r.b - d) ss (q + 1) r2 from ⟨ho2, (HL3.out.2.1.drew).trans (HG.out.below (by exact HL3.out.2.1.size) (fun j hj => (HL3.out.1.ge j hj).1)), HNY1.out r1 r2 hp1 hp2⟩)
                clear ho1 ho2 hg1 hg2 hp1 hp2 c0 c1 c2 HNY1 e1 e2
                go_wp2_with fail
                go_roundw
                case rel => exact ⟨q + 1, v67, r2, rfl, by omega, by go_num, HL4⟩
                case measure => simp [intOf]; omega
              · have HNS1 := hid (HNS.out hry)
                have HL4 := hid (show OwnI wy wx.heap.size vb bs ∧ Below wx.heap.size wx wy ∧ BordG (near_ d y) (fun r => r.a + d) (fun r => r.b - d) ss (q + 1) bs from ⟨HL3.out.1, HL3.out.2.1, HNS1.out⟩)
                clear HNY HNS HNS1
                go_wp2_with (go_at_call 57; (with_reducible refine (in_f _ _ _ _ (by assumption)).mono ?_); rintro e w' ⟨rfl, rfl⟩)
                go_roundw
                case rel => exact ⟨q + 1, vb, bs, rfl, by omega, by go_num, HL4⟩
                case measure => simp [intOf]; omega
            · obtain ⟨w6, rfl⟩ : ∃ w6, w6 = wy := ⟨_, rfl⟩
              have HQN := hid (show q = n by omega)
              obtain ⟨A13, c13, hv13, -, -, hi13⟩ := HL3.out.1.is
              obtain ⟨S, hS⟩ : ∃ S, S = bs.length := ⟨_, rfl⟩
              rw [← hS] at hv13
              have HSS := hid hS
              have HBG := hid (show BordG (near_ d y) (fun r => r.a + d) (fun r => r.b - d) ss ss.length bs from by rw [← HN.out, ← HQN.out]; exact HL3.out.2.2)
              have HBD := hid (bord_ero HBG.out)
              have HSN := hid (show S ≤ 2 * n by rw [hS, ← HQN.out]; exact HL3.out.2.2.n)
              have HI13 := hid hi13
              have HO6 := hid (HL.out.1.next HL3.out.2.1)
              have HB6 := hid (HL.out.2.1.trans (HL3.out.2.1.mono HL.out.2.1.size))
              have HNE6 : Hid (∀ g, A13 = some ⟨g, 0, none⟩ → v.ownBlock ≠ some g) := hid (fun g hg e => by
                have h1 := (HL.out.1.ge g e).2
                have h2 := (HL3.out.1.ge g (by rw [hv13, hg]; rfl)).1
                omega)
              have hS2 : 1 ≤ S := by
                obtain ⟨r, hr, e⟩ := HYR.out
                have ha := (HBG.out.m (r.a + d)).2 ⟨r, by rw [List.take_length]; exact hr, by unfold near_; omega, .inl rfl⟩
                rw [HSS.out]
                exact List.length_pos_of_mem ha
              have HBB : Hid (∀ b ∈ bs, -8300 ≤ b ∧ b ≤ 8300) := hid (fun b hb => by
                obtain ⟨r, hr, e1, e2⟩ := (HBG.out.m b).1 hb
                have := rnok_iff.1 ((chk_all HC.out).1 r (List.mem_of_mem_take hr))
                omega)
              have HJ := hid (HL.out.2.2.begin (fun z hz => by
                obtain ⟨j, hj, rfl⟩ := List.getElem_of_mem hz
                have hji : j < i := by rw [List.length_take] at hj; omega
                rw [List.getElem_take]
                have hjl : j < zs.length := by rw [List.length_take] at hj; omega
                have h1 := sorted_lt HZ.out.s hjl hiz hji
                have h2 := HYI.out
                rw [List.getElem?_eq_getElem hiz] at h2
                have h3 := Option.some.inj h2
                omega) HBD.out (by rw [← HSS.out]; omega))
              have hS3 : S ≤ 80000 := by have := HSN.out; omega
              subst hv13
              clear hS hi13 HL3 HYR
              go_wp2_with fail
              go_loopw [7, 12] (fun s7 s12 wy => E4R (fun x y => aroB ss x y d) (2 * n) (zs.take i) y bs S A13 w5 s7 s12 wy) (fun _ s12 _ => S - (intOf s12).toNat)
              case atStart => exact ⟨0, v, out, rfl, by omega, rfl, hid ⟨HO6.out, HB6.out, HJ.out, HI13.out, HNE6.out⟩⟩
              case round =>
                obtain ⟨j, v2, out2, hv, hjS, rfl, HL5⟩ := hrel
                have hv' := hv.symm
                clear hv
                subst hv'
                obtain ⟨w7, rfl⟩ : ∃ w7, w7 = wr := ⟨_, rfl⟩
                by_cases hlt4 : j + 1 < S
                · have hj0 : j < bs.length := by rw [← HSS.out]; omega
                  have hj1 : j + 1 < bs.length := by rw [← HSS.out]; exact hlt4
                  obtain ⟨g13, hg13, hl13, d0⟩ := HL5.out.2.2.2.1.at_ hj0
                  subst hg13
                  obtain ⟨g13', hg13', -, d1⟩ := HL5.out.2.2.2.1.at_ hj1
                  cases hg13'
                  have HSK := hid (fun h => HL5.out.2.2.1.skip HBD.out hj1 h)
                  have HJN := hid (fun h => HL5.out.2.2.1.join HBD.out hj1 (fun x y h => aro_perm HC.out h) h)
                  have hbb := HBB.out _ (List.getElem_mem hj0)
                  generalize bs[j] = b0 at d0 HSK HJN hbb
                  generalize bs[j + 1] = b1 at d1 HJN
                  have HX7 := hid (HS.out.next (HBr.out.trans (HL5.out.2.1.mono HBr.out.size)))
                  have hsum : IntKind.i64.wrap ((j : Int) + 1) = ((j + 1 : Nat) : Int) := IntWalk.i64_in _ (by omega)
                  have hout : out2.length ≤ 5000000000 := by
                    have h1 := HL5.out.2.2.1.n
                    have h2 : (zs.take i).length ≤ 16384 := by rw [List.length_take]; omega
                    have h3 := Nat.mul_le_mul_right (2 * n) h2
                    omega
                  generalize hP : aroB ss b0 y d = P at HSK HJN
                  have HP := hid hP
                  clear hP
                  go_wp2_with fail
                  (with_reducible refine (around_any A ss n c d b0 y _ HN.out (by unfold maxLen; omega) HX7.out (by omega) (by omega) (by omega)).mono ?_); rintro e w8 ⟨rfl, rfl⟩
                  rw [HP.out]
                  cases P
                  · have HJ9 := hid (HSK.out rfl)
                    have HL9 := hid (show OwnR w7 w5.heap.size v2 out2 ∧ Below w5.heap.size w5 w7 ∧ JF (fun x y => aroB ss x y d) (zs.take i) (2 * n) y bs (j + 1) out2 ∧ Ints w7 (some ⟨g13, 0, none⟩) bs ∧ (∀ g, (some ⟨g13, 0, none⟩ : Option Addr) = some ⟨g, 0, none⟩ → v2.ownBlock ≠ some g) from ⟨HL5.out.1, HL5.out.2.1, HJ9.out, HL5.out.2.2.2⟩)
                    clear HJN HSK d0 d1 hsum HL5
                    go_wp2_with fail
                    go_roundw
                    case rel => exact ⟨j + 1, v2, out2, rfl, by omega, by go_num, HL9⟩
                    case measure => simp [intOf]; omega
                  · have HJ9 := hid (HJN.out rfl)
                    have HO8 := hid HL5.out.1
                    have HB8 := hid HL5.out.2.1
                    have HI8' := hid HL5.out.2.2.2.1
                    have HNE8 := hid (HL5.out.2.2.2.2 g13 rfl)
                    clear HJN HSK HL5
                    have HWB : Hid (w5.heap.size ≤ w7.heap.size) := hid HB8.out.size
                    have hi0 : (0 : Int) ≤ (j : Int) := Int.natCast_nonneg _
                    have hi1 : (j : Int) < (S : Int) := by omega
                    have hi2 : (0 : Int) ≤ ((j + 1 : Nat) : Int) := Int.natCast_nonneg _
                    have hi3 : ((j + 1 : Nat) : Int) < (S : Int) := by omega
                    have hi4 : (0 : Int) ≤ (j : Int) + 1 := by omega
                    have hi5 : (j : Int) + 1 < (S : Int) := by omega
                    go_upto_region 22 with fail
                    go_region_held3 (fun w' => w'.cell? ⟨g13, j, none⟩ = some (.int .i64 b0) ∧ w'.cell? ⟨g13, j + 1, none⟩ = some (.int .i64 b1))
                      (first
                        | go_keep
                        | (refine ⟨?_, ?_⟩
                           · exact hg9.cellk hl13 HNE8.out d0
                           · exact hg9.cellk hl13 HNE8.out d1))
                      (first
                        | (go_at_call 68; refine (joined_any v2 out2 y b0 b1 w5.heap.size w7.drew HWB.out HO8.out hout).mono ?_; rintro e wz ⟨v3, rfl, ho9, hg9⟩))
                    clear hsum hi0 hi1 hi2 hi3 hi4 hi5
                    have HG := hid hg9
                    have HL9 := hid (show OwnR wz w5.heap.size v3 (joinR out2 y b0 b1) ∧ Below w5.heap.size w5 wz ∧ JF (fun x y => aroB ss x y d) (zs.take i) (2 * n) y bs (j + 1) (joinR out2 y b0 b1) ∧ Ints wz (some ⟨g13, 0, none⟩) bs ∧ (∀ g, (some ⟨g13, 0, none⟩ : Option Addr) = some ⟨g, 0, none⟩ → v3.ownBlock ≠ some g) from
                      ⟨ho9, HB8.out.drew.trans (HG.out.below HWB.out (fun k hk => (HO8.out.ge k hk).1)), HJ9.out, fun hn => by
                        obtain ⟨g, e, hl, hc⟩ := HI8'.out hn
                        cases e
                        exact ⟨g13, rfl, Nat.lt_of_lt_of_le hl HG.out.size, fun i z hz => HG.out.cellk hl HNE8.out (hc i z hz)⟩, fun g hg e => by
                        cases hg
                        rcases HG.out.o _ e with h | h
                        · exact HNE8.out h
                        · have : w7.heap.size ≤ g13 := h
                          omega⟩)
                    clear ho9 hg9 d0 d1
                    go_wp2_with fail
                    go_roundw
                    case rel => exact ⟨j + 1, v3, joinR out2 y b0 b1, rfl, by omega, by go_num, HL9⟩
                    case measure => simp [intOf]; omega
                · have hjj : ¬ (j : Int) + 1 < (S : Int) := by omega
                  have HRI := hid (show RF (fun x y => aroB ss x y d) (zs.take (i + 1)) (2 * n) out2 by
                    have h1 := HL5.out.2.2.1.finish HBD.out (by rw [← HSS.out]; omega) (by have := HSN.out; omega)
                    have h2 := HYI.out
                    rw [List.getElem?_eq_getElem hiz] at h2
                    rw [List.take_succ_eq_append_getElem hiz, Option.some.inj h2]
                    exact h1)
                  have HL9 := hid (show OwnR w7 w5.heap.size v2 out2 ∧ Below w5.heap.size w5 w7 ∧ RF (fun x y => aroB ss x y d) (zs.take (i + 1)) (2 * n) out2 from ⟨HL5.out.1, HL5.out.2.1, HRI.out⟩)
                  clear hlt4
                  go_wp2_with fail
                  go_roundw
                  case rel => exact ⟨i + 1, v2, out2, rfl, by omega, by go_num, HL9⟩
                  case measure => simp [intOf]; omega
        · have HIR := hid (show i = R by omega)
          have HF := hid (show RefRes (Ero ss d) (n * (2 * n)) w (.returned v) wx from ⟨v, out, rfl, (HL.out.1.mono HBr.out.size), ero_done HC.out (HL.out.2.2.done (fun x y h => by
            rw [HIR.out, HRR.out, List.take_length]
            obtain ⟨r, hr, e, -⟩ := aro_row h
            refine (HZ.out.m _).2 ⟨r, ?_, e⟩
            rw [HN.out, List.take_length]
            exact hr)), HBr.out.trans (HL.out.2.1.mono HBr.out.size), by
              have h1 := HL.out.2.2.n
              have h2 : (zs.take i).length ≤ n := by rw [List.length_take]; have := HRN.out; omega
              exact Nat.le_trans h1 (Nat.mul_le_mul_right _ h2)⟩)
          go_wp2_with fail
          go_ret
          exact HF.out

end Go.Proofs.Ytldbpabnfjnpbaa
