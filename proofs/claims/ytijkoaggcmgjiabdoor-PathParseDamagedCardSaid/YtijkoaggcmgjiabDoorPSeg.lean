/- What parseSeg of package path returns. -/
import Derived.Test.YtijkoaggcmgjiabDoorPNums
import Derived.Test.YtijkoaggcmgjiabDoorAps
namespace Go.Proofs.YtijkoaggcmgjiabDoor
open Go Go.RowKit Go.WideShapes
set_option linter.unusedVariables false
set_option linter.unusedSimpArgs false

/-- The segment at the beginning of words, and the words behind it. -/
def segW : List ByteArray → Option (Sg × List ByteArray)
  | [] => none
  | w :: r =>
    if w = ⟨#[109]⟩ then (numsB 2 r).map fun p => (⟨1, p.1.getD 0 0, p.1.getD 1 0, 0, 0, 0⟩, p.2)
    else if w = ⟨#[108]⟩ then (numsB 2 r).map fun p => (⟨2, p.1.getD 0 0, p.1.getD 1 0, 0, 0, 0⟩, p.2)
    else if w = ⟨#[113]⟩ then (numsB 5 r).map fun p => (⟨3, p.1.getD 2 0, p.1.getD 3 0, p.1.getD 0 0, p.1.getD 1 0, p.1.getD 4 0⟩, p.2)
    else if w = ⟨#[104]⟩ then some (⟨4, 0, 0, 0, 0, 0⟩, r) else none
/-- What parseSeg answers. -/
def PSeg (B : Nat) (bs : List ByteArray) (e : Ending) (w : World) : Prop := match segW bs with
  | some (s, r) => ∃ A n c, e = .returned (.tuple #[seg s, .slice A n c, .bool true]) ∧ n = r.length ∧ n ≤ c ∧ c ≤ maxLen ∧ Strs B w A r
  | none => ∃ s A n c, e = .returned (.tuple #[seg s, .slice A n c, .bool false])

theorem bytes_inj2 {a b : ByteArray} (h : a.toList = b.toList) : a = b := bytes_inj (by rw [toList_data, toList_data] at h; exact h)
theorem setN_seg2 (k : Int) (zs : List Int) : ∃ s, setN (cel ⟨k, 0, 0, 0, 0, 0⟩) [1, 2] zs = cel s := match zs with
  | [] => ⟨⟨k, 0, 0, 0, 0, 0⟩, rfl⟩
  | [a] => ⟨⟨k, a, 0, 0, 0, 0⟩, rfl⟩
  | a :: b :: r => ⟨⟨k, a, b, 0, 0, 0⟩, by simp [setN]⟩
theorem setN_seg5 (k : Int) (zs : List Int) : ∃ s, setN (cel ⟨k, 0, 0, 0, 0, 0⟩) [3, 4, 1, 2, 5] zs = cel s := match zs with
  | [] => ⟨⟨k, 0, 0, 0, 0, 0⟩, rfl⟩
  | [a] => ⟨⟨k, 0, 0, a, 0, 0⟩, rfl⟩
  | [a, b] => ⟨⟨k, 0, 0, a, b, 0⟩, rfl⟩
  | [a, b, c] => ⟨⟨k, c, 0, a, b, 0⟩, rfl⟩
  | [a, b, c, d] => ⟨⟨k, c, d, a, b, 0⟩, rfl⟩
  | a :: b :: c :: d :: e :: r => ⟨⟨k, c, d, a, b, e⟩, by simp [setN]⟩
theorem numsB_some {k : Nat} {bs : List ByteArray} {zs : List Int} {r : List ByteArray} (h : numsB k bs = some (zs, r)) : zs.length = k := by
  unfold numsB at h
  split at h
  · cases h
  · rename_i hk
    cases hm : mapN (bs.take k) with
    | none => rw [hm] at h; cases h
    | some ys =>
      rw [hm] at h
      obtain ⟨rfl, _⟩ : ys = zs ∧ bs.drop k = r := by simpa using h
      rw [mapN_length _ _ hm, List.length_take]
      omega
theorem two {zs : List Int} (h : zs.length = 2) : ∃ a b, zs = [a, b] := match zs, h with
  | [a, b], _ => ⟨a, b, rfl⟩
theorem five {zs : List Int} (h : zs.length = 5) : ∃ a b c d e, zs = [a, b, c, d, e] := match zs, h with
  | [a, b, c, d, e], _ => ⟨a, b, c, d, e, rfl⟩
theorem Strs.tail {B : Nat} {W : World} {g o c : Nat} {b : ByteArray} {bs : List ByteArray} (h : Strs B W (some ⟨g, o, none⟩) (b :: bs)) (hc : bs.length + 1 ≤ c) : Strs B W (if c = 1 then some ⟨g, o, none⟩ else some ⟨g, o + 1, none⟩) bs := by
  split
  · rename_i e
    rw [List.eq_nil_of_length_eq_zero (show bs.length = 0 by omega)]
    exact Strs.nil _ _ _
  · have := h.drop 1
    simp only [Option.map_some, List.drop_succ_cons, List.drop_zero] at this
    rwa [show (⟨g, o, none⟩ : Addr).add 1 = ⟨g, o + 1, none⟩ from rfl] at this
theorem retSvv {fn : Func} {p u v : Tmp} {R : Ending → World → Prop} {tmps : Array Value} {w : World} {B : Nat} {s : Sg} {x y : Value} (h : fn.results = #[.cell p 38, .tmp u, .tmp v]) (hp : tmps.getD p undef = .pointer (some ⟨B, 0, none⟩)) (hu : tmps.getD u undef = x) (hv : tmps.getD v undef = y)
    (hV : Var w B (cel s) 38) (hR : R (.returned (.tuple #[seg s, x, y])) w) : bodyPost Tryd.prog fn R .ret ⟨tmps, []⟩ w :=
  bodyPost_ret (v := .tuple #[seg s, x, y]) (by
    show (results fn tmps).run _ w = _
    have e := load6 hV
    rw [Array.getD_eq_getD_getElem?] at hp hu hv
    simp [results, h, hp, hu, hv, asAddr, e]) rfl hR

set_option maxHeartbeats 3200000 in
set_option maxRecDepth 100000 in
theorem parseSeg_m (A : Option Addr) (bs : List ByteArray) (n c B0 : Nat) (w : World) (h0 : B0 ≤ w.heap.size) (hn : n = bs.length + 1) (hc : n ≤ c ∧ c ≤ maxLen) (hs : Strs B0 w A (⟨#[109]⟩ :: bs)) (hl : ∀ x ∈ bs, x.size ≤ 4294967295) (he : Env w) :
    Calls Tryd.prog 16 #[.slice A n c] w fun e w' => PSeg B0 (⟨#[109]⟩ :: bs) e w' ∧ Below w.heap.size w w' := by
  obtain ⟨g, o, rfl, hg, hcell⟩ := hs (by simp)
  replace hg := Nat.lt_of_lt_of_le hg h0
  have hw0 := hcell 0 _ rfl
  rw [Nat.add_zero] at hw0
  obtain ⟨hc1, hc2⟩ := hc
  have HST := hid (hs.tail (c := c) (by omega))
  have HL := hid hl
  have HE := hid he
  have HC2 := hid hc2
  have hc3 : (c : Int) ≤ 9223372036854775807 := by unfold maxLen at hc2; omega
  have HSW := hid (show segW (⟨#[109]⟩ :: bs) = (numsB 2 bs).map fun p => (⟨1, p.1.getD 0 0, p.1.getD 1 0, 0, 0, 0⟩, p.2) by rw [segW, if_pos rfl])
  clear hs hl he hc2 hcell
  go_enter Tryd.func16, Tryd.ntmps16
  go_upto_region 5 with fail
  have HB0 := hid (below_alloc (Below.refl _ w) (.cells (cel ⟨1, 0, 0, 0, 0, 0⟩) 38))
  have HV0 := hid (Var.new w (cel ⟨1, 0, 0, 0, 0, 0⟩) 38 _ rfl)
  have HZ := hid (show (w.alloc (.cells (cel ⟨1, 0, 0, 0, 0, 0⟩) 38)).heap.size = w.heap.size + 1 by simp)
  clear hw0 hg
  generalize (if c = 1 then some (⟨g, o, none⟩ : Addr) else some ⟨g, o + 1, none⟩) = A1 at HST ⊢
  generalize w.alloc _ = w1 at HB0 HV0 HZ ⊢
  have HC := hid (parseNumbers_any A1 bs bs.length (c - 1) 2 w1.heap.size w.heap.size B0 h0 [1, 2] (cel ⟨1, 0, 0, 0, 0, 0⟩) (w1.alloc (.cells #[.pointer (some ⟨w.heap.size, 1, none⟩), .pointer (some ⟨w.heap.size, 2, none⟩)] 57)) rfl ⟨by omega, by have := HC2.out; omega⟩ (HST.out.below ((below_alloc HB0.out _).mono h0)) HL.out rfl (by omega) (by intro j hj; simp at hj; simp; omega) (HV0.out.alloc _) (Var.new w1 #[.pointer (some ⟨w.heap.size, 1, none⟩), .pointer (some ⟨w.heap.size, 2, none⟩)] _ _ rfl) (by rw [HZ.out]; omega) (fun w' hb => HE.out.next ((below_alloc HB0.out _).trans hb)))
  go_wp2_with fail
  (with_reducible refine HC.out.mono ?_); rintro e w2 ⟨⟨zs, hp, hV⟩, hb⟩
  clear HC
  have HBX := hid ((below_alloc HB0.out _).trans hb)
  have HVX := hid hV
  clear hb hV HB0 HV0 HZ HST HL HE
  unfold PNums at hp
  cases hq : numsB 2 bs with
  | none =>
    rw [hq] at hp
    obtain rfl : e = _ := hp
    obtain ⟨s, es⟩ := setN_seg2 1 zs
    rw [es] at HVX
    rw [hq] at HSW
    clear es hq
    obtain ⟨q0, q1, q2, q3, q4, q5, qf⟩ := HVX.out.read6
    go_wp2_with fail
    refine retSvv Tryd.results16 rfl rfl rfl HVX.out.set6 ⟨?_, below_set6 HBX.out (Nat.le_refl _)⟩
    unfold PSeg
    rw [HSW.out]
    exact ⟨s, _, _, _, rfl⟩
  | some p =>
    obtain ⟨ys, r⟩ := p
    rw [hq] at hp HSW
    obtain ⟨rfl, A2, n2, c2, rfl, hn2, hc2, hc2', hs2⟩ := hp
    obtain ⟨a, b, rfl⟩ := two (numsB_some hq)
    replace HVX := hid (show Var w2 w.heap.size (cel ⟨1, a, b, 0, 0, 0⟩) 38 from HVX.out)
    have HS2 := hid hs2
    have HN2 := hid (And.intro hn2 (And.intro hc2 hc2'))
    clear hq hs2 hn2 hc2 hc2'
    obtain ⟨q0, q1, q2, q3, q4, q5, qf⟩ := HVX.out.read6
    go_wp2_with fail
    refine retSvv (s := ⟨1, a, b, 0, 0, 0⟩) Tryd.results16 rfl rfl rfl HVX.out.set6 ⟨?_, below_set6 HBX.out (Nat.le_refl _)⟩
    unfold PSeg
    rw [HSW.out]
    exact ⟨A2, n2, c2, rfl, HN2.out.1, HN2.out.2.1, HN2.out.2.2, HS2.out.below (below_set6C (Below.refl _ _) h0)⟩
set_option maxHeartbeats 3200000 in
set_option maxRecDepth 100000 in
theorem parseSeg_l (A : Option Addr) (bs : List ByteArray) (n c B0 : Nat) (w : World) (h0 : B0 ≤ w.heap.size) (hn : n = bs.length + 1) (hc : n ≤ c ∧ c ≤ maxLen) (hs : Strs B0 w A (⟨#[108]⟩ :: bs)) (hl : ∀ x ∈ bs, x.size ≤ 4294967295) (he : Env w) :
    Calls Tryd.prog 16 #[.slice A n c] w fun e w' => PSeg B0 (⟨#[108]⟩ :: bs) e w' ∧ Below w.heap.size w w' := by
  obtain ⟨g, o, rfl, hg, hcell⟩ := hs (by simp)
  replace hg := Nat.lt_of_lt_of_le hg h0
  have hw0 := hcell 0 _ rfl
  rw [Nat.add_zero] at hw0
  obtain ⟨hc1, hc2⟩ := hc
  have HST := hid (hs.tail (c := c) (by omega))
  have HL := hid hl
  have HE := hid he
  have HC2 := hid hc2
  have hc3 : (c : Int) ≤ 9223372036854775807 := by unfold maxLen at hc2; omega
  have HSW := hid (show segW (⟨#[108]⟩ :: bs) = (numsB 2 bs).map fun p => (⟨2, p.1.getD 0 0, p.1.getD 1 0, 0, 0, 0⟩, p.2) by rw [segW, if_neg (by decide), if_pos rfl])
  clear hs hl he hc2 hcell
  go_enter Tryd.func16, Tryd.ntmps16
  go_upto_region 8 with fail
  have HB0 := hid (below_alloc (Below.refl _ w) (.cells (cel ⟨2, 0, 0, 0, 0, 0⟩) 38))
  have HV0 := hid (Var.new w (cel ⟨2, 0, 0, 0, 0, 0⟩) 38 _ rfl)
  have HZ := hid (show (w.alloc (.cells (cel ⟨2, 0, 0, 0, 0, 0⟩) 38)).heap.size = w.heap.size + 1 by simp)
  clear hw0 hg
  generalize (if c = 1 then some (⟨g, o, none⟩ : Addr) else some ⟨g, o + 1, none⟩) = A1 at HST ⊢
  generalize w.alloc _ = w1 at HB0 HV0 HZ ⊢
  have HC := hid (parseNumbers_any A1 bs bs.length (c - 1) 2 w1.heap.size w.heap.size B0 h0 [1, 2] (cel ⟨2, 0, 0, 0, 0, 0⟩) (w1.alloc (.cells #[.pointer (some ⟨w.heap.size, 1, none⟩), .pointer (some ⟨w.heap.size, 2, none⟩)] 57)) rfl ⟨by omega, by have := HC2.out; omega⟩ (HST.out.below ((below_alloc HB0.out _).mono h0)) HL.out rfl (by omega) (by intro j hj; simp at hj; simp; omega) (HV0.out.alloc _) (Var.new w1 #[.pointer (some ⟨w.heap.size, 1, none⟩), .pointer (some ⟨w.heap.size, 2, none⟩)] _ _ rfl) (by rw [HZ.out]; omega) (fun w' hb => HE.out.next ((below_alloc HB0.out _).trans hb)))
  go_wp2_with fail
  (with_reducible refine HC.out.mono ?_); rintro e w2 ⟨⟨zs, hp, hV⟩, hb⟩
  clear HC
  have HBX := hid ((below_alloc HB0.out _).trans hb)
  have HVX := hid hV
  clear hb hV HB0 HV0 HZ HST HL HE
  unfold PNums at hp
  cases hq : numsB 2 bs with
  | none =>
    rw [hq] at hp
    obtain rfl : e = _ := hp
    obtain ⟨s, es⟩ := setN_seg2 2 zs
    rw [es] at HVX
    rw [hq] at HSW
    clear es hq
    obtain ⟨q0, q1, q2, q3, q4, q5, qf⟩ := HVX.out.read6
    go_wp2_with fail
    refine retSvv Tryd.results16 rfl rfl rfl HVX.out.set6 ⟨?_, below_set6 HBX.out (Nat.le_refl _)⟩
    unfold PSeg
    rw [HSW.out]
    exact ⟨s, _, _, _, rfl⟩
  | some p =>
    obtain ⟨ys, r⟩ := p
    rw [hq] at hp HSW
    obtain ⟨rfl, A2, n2, c2, rfl, hn2, hc2, hc2', hs2⟩ := hp
    obtain ⟨a, b, rfl⟩ := two (numsB_some hq)
    replace HVX := hid (show Var w2 w.heap.size (cel ⟨2, a, b, 0, 0, 0⟩) 38 from HVX.out)
    have HS2 := hid hs2
    have HN2 := hid (And.intro hn2 (And.intro hc2 hc2'))
    clear hq hs2 hn2 hc2 hc2'
    obtain ⟨q0, q1, q2, q3, q4, q5, qf⟩ := HVX.out.read6
    go_wp2_with fail
    refine retSvv (s := ⟨2, a, b, 0, 0, 0⟩) Tryd.results16 rfl rfl rfl HVX.out.set6 ⟨?_, below_set6 HBX.out (Nat.le_refl _)⟩
    unfold PSeg
    rw [HSW.out]
    exact ⟨A2, n2, c2, rfl, HN2.out.1, HN2.out.2.1, HN2.out.2.2, HS2.out.below (below_set6C (Below.refl _ _) h0)⟩
set_option maxHeartbeats 3200000 in
set_option maxRecDepth 100000 in
theorem parseSeg_q (A : Option Addr) (bs : List ByteArray) (n c B0 : Nat) (w : World) (h0 : B0 ≤ w.heap.size) (hn : n = bs.length + 1) (hc : n ≤ c ∧ c ≤ maxLen) (hs : Strs B0 w A (⟨#[113]⟩ :: bs)) (hl : ∀ x ∈ bs, x.size ≤ 4294967295) (he : Env w) :
    Calls Tryd.prog 16 #[.slice A n c] w fun e w' => PSeg B0 (⟨#[113]⟩ :: bs) e w' ∧ Below w.heap.size w w' := by
  obtain ⟨g, o, rfl, hg, hcell⟩ := hs (by simp)
  replace hg := Nat.lt_of_lt_of_le hg h0
  have hw0 := hcell 0 _ rfl
  rw [Nat.add_zero] at hw0
  obtain ⟨hc1, hc2⟩ := hc
  have HST := hid (hs.tail (c := c) (by omega))
  have HL := hid hl
  have HE := hid he
  have HC2 := hid hc2
  have hc3 : (c : Int) ≤ 9223372036854775807 := by unfold maxLen at hc2; omega
  have HSW := hid (show segW (⟨#[113]⟩ :: bs) = (numsB 5 bs).map fun p => (⟨3, p.1.getD 2 0, p.1.getD 3 0, p.1.getD 0 0, p.1.getD 1 0, p.1.getD 4 0⟩, p.2) by rw [segW, if_neg (by decide), if_neg (by decide), if_pos rfl])
  clear hs hl he hc2 hcell
  go_enter Tryd.func16, Tryd.ntmps16
  go_upto_region 11 with fail
  have HB0 := hid (below_alloc (Below.refl _ w) (.cells (cel ⟨3, 0, 0, 0, 0, 0⟩) 38))
  have HV0 := hid (Var.new w (cel ⟨3, 0, 0, 0, 0, 0⟩) 38 _ rfl)
  have HZ := hid (show (w.alloc (.cells (cel ⟨3, 0, 0, 0, 0, 0⟩) 38)).heap.size = w.heap.size + 1 by simp)
  clear hw0 hg
  generalize (if c = 1 then some (⟨g, o, none⟩ : Addr) else some ⟨g, o + 1, none⟩) = A1 at HST ⊢
  generalize w.alloc _ = w1 at HB0 HV0 HZ ⊢
  have HC := hid (parseNumbers_any A1 bs bs.length (c - 1) 5 w1.heap.size w.heap.size B0 h0 [3, 4, 1, 2, 5] (cel ⟨3, 0, 0, 0, 0, 0⟩) (w1.alloc (.cells #[.pointer (some ⟨w.heap.size, 3, none⟩), .pointer (some ⟨w.heap.size, 4, none⟩), .pointer (some ⟨w.heap.size, 1, none⟩), .pointer (some ⟨w.heap.size, 2, none⟩), .pointer (some ⟨w.heap.size, 5, none⟩)] 57)) rfl ⟨by omega, by have := HC2.out; omega⟩ (HST.out.below ((below_alloc HB0.out _).mono h0)) HL.out rfl (by omega) (by intro j hj; simp at hj; simp; omega) (HV0.out.alloc _) (Var.new w1 #[.pointer (some ⟨w.heap.size, 3, none⟩), .pointer (some ⟨w.heap.size, 4, none⟩), .pointer (some ⟨w.heap.size, 1, none⟩), .pointer (some ⟨w.heap.size, 2, none⟩), .pointer (some ⟨w.heap.size, 5, none⟩)] _ _ rfl) (by rw [HZ.out]; omega) (fun w' hb => HE.out.next ((below_alloc HB0.out _).trans hb)))
  go_wp2_with fail
  (with_reducible refine HC.out.mono ?_); rintro e w2 ⟨⟨zs, hp, hV⟩, hb⟩
  clear HC
  have HBX := hid ((below_alloc HB0.out _).trans hb)
  have HVX := hid hV
  clear hb hV HB0 HV0 HZ HST HL HE
  unfold PNums at hp
  cases hq : numsB 5 bs with
  | none =>
    rw [hq] at hp
    obtain rfl : e = _ := hp
    obtain ⟨s, es⟩ := setN_seg5 3 zs
    rw [es] at HVX
    rw [hq] at HSW
    clear es hq
    obtain ⟨q0, q1, q2, q3, q4, q5, qf⟩ := HVX.out.read6
    go_wp2_with fail
    refine retSvv Tryd.results16 rfl rfl rfl HVX.out.set6 ⟨?_, below_set6 HBX.out (Nat.le_refl _)⟩
    unfold PSeg
    rw [HSW.out]
    exact ⟨s, _, _, _, rfl⟩
  | some p =>
    obtain ⟨ys, r⟩ := p
    rw [hq] at hp HSW
    obtain ⟨rfl, A2, n2, c2, rfl, hn2, hc2, hc2', hs2⟩ := hp
    obtain ⟨u, v, x, y, z, rfl⟩ := five (numsB_some hq)
    replace HVX := hid (show Var w2 w.heap.size (cel ⟨3, x, y, u, v, z⟩) 38 from HVX.out)
    have HS2 := hid hs2
    have HN2 := hid (And.intro hn2 (And.intro hc2 hc2'))
    clear hq hs2 hn2 hc2 hc2'
    obtain ⟨q0, q1, q2, q3, q4, q5, qf⟩ := HVX.out.read6
    go_wp2_with fail
    refine retSvv (s := ⟨3, x, y, u, v, z⟩) Tryd.results16 rfl rfl rfl HVX.out.set6 ⟨?_, below_set6 HBX.out (Nat.le_refl _)⟩
    unfold PSeg
    rw [HSW.out]
    exact ⟨A2, n2, c2, rfl, HN2.out.1, HN2.out.2.1, HN2.out.2.2, HS2.out.below (below_set6C (Below.refl _ _) h0)⟩
set_option maxHeartbeats 3200000 in
set_option maxRecDepth 100000 in
theorem parseSeg_h (A : Option Addr) (bs : List ByteArray) (n c B0 : Nat) (w : World) (h0 : B0 ≤ w.heap.size) (hn : n = bs.length + 1) (hc : n ≤ c ∧ c ≤ maxLen) (hs : Strs B0 w A (⟨#[104]⟩ :: bs)) :
    Calls Tryd.prog 16 #[.slice A n c] w fun e w' => PSeg B0 (⟨#[104]⟩ :: bs) e w' ∧ Below w.heap.size w w' := by
  obtain ⟨g, o, rfl, hg, hcell⟩ := hs (by simp)
  replace hg := Nat.lt_of_lt_of_le hg h0
  have hw0 := hcell 0 _ rfl
  rw [Nat.add_zero] at hw0
  obtain ⟨hc1, hc2⟩ := hc
  have HST := hid (hs.tail (c := c) (by omega))
  have HC2 := hid hc2
  have hc3 : (c : Int) ≤ 9223372036854775807 := by unfold maxLen at hc2; omega
  have HSW := hid (show segW (⟨#[104]⟩ :: bs) = some (⟨4, 0, 0, 0, 0, 0⟩, bs) by rw [segW, if_neg (by decide), if_neg (by decide), if_neg (by decide), if_pos rfl])
  clear hs hc2 hcell
  go_enter Tryd.func16, Tryd.ntmps16
  go_upto_region 14 with fail
  have HB0 := hid (below_alloc (Below.refl _ w) (.cells (cel ⟨4, 0, 0, 0, 0, 0⟩) 38))
  have HV0 := hid (Var.new w (cel ⟨4, 0, 0, 0, 0, 0⟩) 38 _ rfl)
  clear hw0 hg
  generalize (if c = 1 then some (⟨g, o, none⟩ : Addr) else some ⟨g, o + 1, none⟩) = A1 at HST ⊢
  generalize w.alloc _ = w2 at HB0 HV0 ⊢
  obtain ⟨q0, q1, q2, q3, q4, q5, qf⟩ := HV0.out.read6
  go_wp2_with fail
  refine retSvv (s := ⟨4, 0, 0, 0, 0, 0⟩) Tryd.results16 rfl rfl rfl HV0.out.set6 ⟨?_, below_set6 HB0.out (Nat.le_refl _)⟩
  unfold PSeg
  rw [HSW.out]
  exact ⟨A1, _, _, rfl, rfl, by omega, by have := HC2.out; omega, (HST.out.below (HB0.out.mono h0)).below (below_set6C (Below.refl _ _) h0)⟩

end Go.Proofs.YtijkoaggcmgjiabDoor
