/- fill.Fill's closure, slices.IndexFunc and slices.DeleteFunc on slopes. -/
import Derived.Test.YtijkoaggcmgjiaaFrw
import Derived.Test.YtijkoaggcmgjiaaSto
import Derived.Lib.SlKept
import Derived.Lib.SliceRun
namespace Go.Proofs.Ytijkoaggcmgjiaa
open Go Go.RowKit
set_option linter.unusedVariables false
set_option linter.unusedSimpArgs false

/-! ### rows that a call owns: cut, overwritten -/
theorem own_cut {w : World} {B e size g n cap : Nat} {xs : List Value} (h : w.ownsRow B e size (.slice (some ⟨g, 0, none⟩) n cap) n xs) {k : Nat} (hk : k ≤ n) : w.ownsRow B e size (.slice (some ⟨g, 0, none⟩) k cap) k (xs.take (k * size)) := by
  have hle : k * size ≤ n * size := Nat.mul_le_mul_right _ hk
  refine ⟨by rw [List.length_take, h.1]; omega, ?_⟩
  rcases h.2 with ⟨e0, _⟩ | ⟨g', cap', cur, e0, hb, hg, hn, hm, hs, ht⟩
  · cases e0
  · injection e0 with e1 _ e3
    injection e1 with e1
    injection e1 with e1
    subst e1; subst e3
    refine .inr ⟨g, cap, cur, rfl, hb, hg, by omega, hm, hs, ?_⟩
    rw [← ht, List.take_take, Nat.min_eq_left hle]
theorem own_beyond {B e size g k cap : Nat} {xs : List Value} : ∀ (vs : List Value) (o : Nat) (w : World), w.ownsRow B e size (.slice (some ⟨g, 0, none⟩) k cap) k xs → k * size ≤ o → (w.setCells g o vs).ownsRow B e size (.slice (some ⟨g, 0, none⟩) k cap) k xs
  | [], _, _, h, _ => h
  | v :: r, o, w, h, ho => by
    have h1 := (World.ownsRow.stored h o v).1
    rw [List.set_eq_of_length_le (by rw [h.1]; exact ho)] at h1
    exact own_beyond r (o + 1) _ h1 (by omega)
theorem gr_cells {g : Nat} : ∀ (vs : List Value) (o : Nat) (w : World), w.grownBy (w.setCells g o vs) (some g)
  | [], _, w => World.grownBy.refl _ _
  | v :: r, o, w => by
    have h2 := gr_cells (g := g) r (o + 1) (w.setCell ⟨g, o, none⟩ v)
    refine ⟨h2.os, h2.tape, h2.output, ?_, fun k hk hne => ?_⟩
    · have := h2.size
      rw [World.size_setCell] at this
      exact this
    · have h3 := h2.block k (by simpa [World.setCell] using hk) hne
      exact h3.trans (Below.heap_setCell _ _ _ _ (fun e => hne (by rw [e])))
theorem slc_set (s : Sl) (L : List Value) (i k : Nat) (u : Value) : ((slc s).toList ++ L).set ((i + 1) * 5 + k) u = (slc s).toList ++ L.set (i * 5 + k) u := by
  rw [List.set_append_right _ _ (by simp; omega)]
  congr 2
  simp; omega
theorem flatS_set : ∀ (xs : List Sl) (i : Nat) (s : Sl), i < xs.length →
    (((((flatS xs).set (i * 5) (.int .i64 s.t.x)).set (i * 5 + 1) (.int .i64 s.t.y)).set (i * 5 + 2) (.int .i64 s.b.x)).set (i * 5 + 3) (.int .i64 s.b.y)).set (i * 5 + 4) (.int .i64 s.d) = flatS (xs.set i s)
  | [], _, _, h => by simp at h
  | g :: r, 0, s, _ => by
    rw [flatS_cons, List.set_cons_zero, flatS_cons]
    rfl
  | g :: r, i + 1, s, h => by
    rw [List.set_cons_succ, flatS_cons, flatS_cons, ← flatS_set r i s (by simpa using h)]
    have e := slc_set g (flatS r) i 0 (.int .i64 s.t.x)
    rw [Nat.add_zero, Nat.add_zero] at e
    rw [e, slc_set, slc_set, slc_set, slc_set]
    simp only [Nat.add_zero]
theorem OwnS.setAt {w : World} {B g n c i : Nat} {xs : List Sl} (h : OwnS w B (.slice (some ⟨g, 0, none⟩) n c) xs) (hn : n = xs.length) (hi : i < xs.length) (s : Sl) :
    OwnS (((((w.setCell ⟨g, i * 5, none⟩ (.int .i64 s.t.x)).setCell ⟨g, i * 5 + 1, none⟩ (.int .i64 s.t.y)).setCell ⟨g, i * 5 + 2, none⟩ (.int .i64 s.b.x)).setCell ⟨g, i * 5 + 3, none⟩ (.int .i64 s.b.y)).setCell ⟨g, i * 5 + 4, none⟩ (.int .i64 s.d)) B (.slice (some ⟨g, 0, none⟩) n c) (xs.set i s) := by
  subst hn
  have h1 := (World.ownsRow.stored h (i * 5) (.int .i64 s.t.x)).1
  have h2 := (World.ownsRow.stored h1 (i * 5 + 1) (.int .i64 s.t.y)).1
  have h3 := (World.ownsRow.stored h2 (i * 5 + 2) (.int .i64 s.b.x)).1
  have h4 := (World.ownsRow.stored h3 (i * 5 + 3) (.int .i64 s.b.y)).1
  have h5 := (World.ownsRow.stored h4 (i * 5 + 4) (.int .i64 s.d)).1
  rw [flatS_set xs i s hi] at h5
  unfold OwnS
  rw [List.length_set]
  exact h5
theorem Gr.set5 {w : World} {v : Value} {w0 : World} {g n c a0 a1 a2 a3 a4 : Nat} {u0 u1 u2 u3 u4 : Value} (h : Gr v (.slice (some ⟨g, 0, none⟩) n c) w0 w) :
    Gr v (.slice (some ⟨g, 0, none⟩) n c) w0 (((((w.setCell ⟨g, a0, none⟩ u0).setCell ⟨g, a1, none⟩ u1).setCell ⟨g, a2, none⟩ u2).setCell ⟨g, a3, none⟩ u3).setCell ⟨g, a4, none⟩ u4) :=
  ((((h.trans Gr.set).trans Gr.set).trans Gr.set).trans Gr.set).trans Gr.set

/-! ### clear -/
theorem zeroS (w : World) : (zeroValue 77).run Try.prog w = .ok (slv ⟨⟨0, 0⟩, ⟨0, 0⟩, 0⟩) w := by
  go_simp
theorem run_clearS {w : World} {B g n c k : Nat} {xs : List Sl} (h : OwnS w B (.slice (some ⟨g, 0, none⟩) n c) xs) (hn : n = xs.length) (hk : k < xs.length) (m : Nat) (hm : m = xs.length - k) (cc : Nat) :
    ∃ vs, ∀ ty, (Builtin.clear_ #[72] ty #[.slice (some ⟨g, k * 5, none⟩) m cc]).run Try.prog w = .ok (.tuple #[]) (w.setCells g (k * 5) vs) := by
  obtain ⟨q, rfl⟩ : ∃ q, m = q + 1 := ⟨m - 1, by omega⟩
  subst hn
  refine ⟨(Builtin.zeroCells (slv ⟨⟨0, 0⟩, ⟨0, 0⟩, 0⟩).cells (q + 1)).toList, fun ty => ?_⟩
  have hz : ∀ v ∈ (Builtin.zeroCells (slv ⟨⟨0, 0⟩, ⟨0, 0⟩, 0⟩).cells (q + 1)).toList, v = .int .i64 0 := fun v hv => by
    unfold Builtin.zeroCells at hv
    simp only [Array.toList_map, List.mem_map] at hv
    obtain ⟨i, -, rfl⟩ := hv
    show (slc ⟨⟨0, 0⟩, ⟨0, 0⟩, 0⟩)[i % 5]! = _
    rcases (show i % 5 = 0 ∨ i % 5 = 1 ∨ i % 5 = 2 ∨ i % 5 = 3 ∨ i % 5 = 4 by omega) with h | h | h | h | h <;> rw [h] <;> rfl
  have hln : (Builtin.zeroCells (slv ⟨⟨0, 0⟩, ⟨0, 0⟩, 0⟩).cells (q + 1)).toList.length = (q + 1) * 5 := by
    unfold Builtin.zeroCells
    simp only [Array.toList_map, List.length_map, Array.length_toList, Array.size_range]
    rfl
  have hst := run_storeCells_cells (P := Try.prog) g (k * 5) (Builtin.zeroCells (slv ⟨⟨0, 0⟩, ⟨0, 0⟩, 0⟩).cells (q + 1)).toList 0 w (fun j hj => by
      rw [hln] at hj
      have := World.ownsRow.cellAt h (k * 5 + j) (by omega)
      rw [Nat.add_zero, this, List.getElem?_eq_getElem (by rw [flatS_length]; omega)]
      rfl) (fun j hj => by
      rw [Nat.add_zero]
      exact World.ownsRow.frozenAt h (k * 5 + j)) (fun v hv => by rw [hz v hv]; rfl)
  simp only [Nat.add_zero] at hst
  simp [Builtin.clear_, run_underlying Try.underlying72, zeroS, hst]

/-! ### the closure, IndexFunc -/
/-- A slope that ends at the row or above. -/
def dl (y : Int) (s : Sl) : Bool := decide (s.b.y ≤ y)
theorem fill1_any (s : Sl) (b : Nat) (y : Int) (w : World) (hb : w.cell? ⟨b, 0, none⟩ = some (.int .i64 y)) (hl : b < w.heap.size) :
    Calls Try.prog 45 #[slv s, .pointer (some ⟨b, 0, none⟩)] w fun e w' => e = .returned (.bool (dl y s)) ∧ Below w.heap.size w w' := by
  unfold dl
  obtain ⟨W, hW⟩ : ∃ W, W = w.alloc (.cells (slc s) 77) := ⟨_, rfl⟩
  have HB := hid (show Below w.heap.size w W by rw [hW]; exact below_alloc (Below.refl _ w) _)
  have hV : Var W w.heap.size (slc s) 77 := by rw [hW]; exact Var.new _ _ _ _ rfl
  obtain ⟨-, -, -, k3, -⟩ := hV.read5
  have c1 := (HB.out.cell (p := ⟨b, 0, none⟩) hl).trans hb
  clear hb hV
  go_enter Try.func45, Try.ntmps45
  go_upto_region 1 with fail
  rw [← hW]
  clear hW
  go_wp2_with fail
  go_ret
  exact ⟨rfl, HB.out⟩

set_option maxHeartbeats 1000000 in
theorem idxS_any (A : Option Addr) (xs : List Sl) (n c b : Nat) (y : Int) (w : World) (hn : n = xs.length) (hl : n ≤ 1000000) (hs : RowS w A xs) (hb : w.cell? ⟨b, 0, none⟩ = some (.int .i64 y)) (hbl : b < w.heap.size) :
    Calls Try.prog 86 #[.slice A n c, .func (.func 45) #[] #[.pointer (some ⟨b, 0, none⟩)]] w fun e w' =>
      ((e = .returned (.int .i64 (-1)) ∧ ∀ (i : Nat) (hi : i < xs.length), dl y xs[i] = false) ∨ ∃ k : Nat, e = .returned (.int .i64 k) ∧ k < n ∧ (∃ hk : k < xs.length, dl y xs[k] = true) ∧ ∀ (i : Nat) (hi : i < xs.length), i < k → dl y xs[i] = false) ∧ Below w.heap.size w w' := by
  have HS := hid hs
  have HN := hid hn
  have HB0 := hid hb
  clear hs hn hb
  go_enter Try.func86, Try.ntmps86
  go_wp2_with fail
  go_loopw [8] (fun s8 wr => ∃ (j : Nat), j ≤ n ∧ s8 = .int .i64 j ∧ Hid (∀ (i : Nat) (hi : i < xs.length), i < j → dl y xs[i] = false) ∧ Hid (Below w.heap.size w wr)) (fun s8 _ => n - (intOf s8).toNat)
  case atStart => exact ⟨0, Nat.zero_le _, rfl, hid (fun i hi h => absurd h (Nat.not_lt_zero _)), hid (Below.refl _ _)⟩
  case round =>
    obtain ⟨j, hj, rfl, HT, HB⟩ := hrel
    by_cases hlt : j < n
    · have hjl : j < xs.length := by rw [← HN.out]; exact hlt
      obtain ⟨a', rfl, hal, hsa⟩ := (HS.out.next HB.out).at_ hjl
      have HA := hid (fun (e : dl y xs[j] = false) => show ∀ (i : Nat) (hi : i < xs.length), i < j + 1 → dl y xs[i] = false from fun i hi h => by
        rcases Nat.lt_or_ge i j with k | k
        · exact HT.out i hi k
        · obtain rfl : i = j := by omega
          exact e)
      have HI := hid (fun (e : dl y xs[j] = true) => show ∃ hk : j < xs.length, dl y xs[j] = true from ⟨hjl, e⟩)
      generalize xs[j] = r at hsa HA HI
      obtain ⟨q0, q1, q2, q3, q4⟩ := hsa
      have HC := hid (fill1_any r b y wr ((HB.out.cell (p := ⟨b, 0, none⟩) hbl).trans HB0.out) (Nat.lt_of_lt_of_le hbl HB.out.size))
      cases hy : dl y r with
      | false =>
        have HA1 := hid (HA.out hy)
        rw [hy] at HC
        clear hy
        go_wp2_with fail
        (with_reducible refine (HC.out).mono ?_); rintro e w2 ⟨rfl, hbw⟩
        have HB2 := hid (below_next HB.out hbw)
        clear hbw
        go_wp2_with fail
        go_roundw
        case rel => exact ⟨j + 1, by omega, by go_num, HA1, HB2⟩
        case measure => simp [intOf]; omega
      | true =>
        have HF := hid (HI.out hy)
        rw [hy] at HC
        clear hy
        go_wp2_with fail
        (with_reducible refine (HC.out).mono ?_); rintro e w2 ⟨rfl, hbw⟩
        have HB2 := hid (below_next HB.out hbw)
        clear hbw
        go_wp2_with fail
        go_ret
        exact ⟨.inr ⟨j, rfl, hlt, HF.out, HT.out⟩, HB2.out⟩
    · go_wp2_with fail
      go_ret
      exact ⟨.inl ⟨rfl, fun i hi => HT.out i hi (by have := HN.out; omega)⟩, HB.out⟩

/-! ### DeleteFunc -/
theorem flatS_take (xs : List Sl) (i : Nat) (h : i ≤ xs.length) : (flatS xs).take (i * 5) = flatS (xs.take i) := by
  have e : flatS xs = flatS (xs.take i) ++ flatS (xs.drop i) := by rw [← flatS_append, List.take_append_drop]
  rw [e, List.take_append_of_le_length (by rw [flatS_length, List.length_take]; omega), List.take_of_length_le (by rw [flatS_length, List.length_take]; omega)]
theorem adr0 (g j : Nat) : (⟨g, 0, none⟩ : Addr).add j = ⟨g, j, none⟩ := by unfold Addr.add; split <;> simp_all
def kpS (y : Int) (d : Array Sl) (j : Nat) : Bool := !dl y d[j]!
theorem kept_delS (y : Int) (xs : List Sl) : Lib.keptUpTo (kpS y xs.toArray) xs.toArray xs.toArray.size = delS y xs := by
  have := Lib.keptUpTo_filter (fun s => !dl y s) xs.toArray
  unfold delS dl at *
  exact this
theorem kept_take {y : Int} {xs : List Sl} {i n : Nat} {dk : Array Sl} (hn : n = xs.length) (h : Lib.KeptInv (kpS y xs.toArray) xs.toArray n i dk) : dk.toList.take i = delS y xs := by
  have e : Lib.keptUpTo (kpS y xs.toArray) xs.toArray n = delS y xs := by
    have := kept_delS y xs
    rwa [List.size_toArray, ← hn] at this
  have hs : dk.size = xs.length := by have := h.size; simpa using this
  have hl := h.lt
  have hlen := h.len
  rw [e] at hlen
  refine List.ext_getElem? fun j => ?_
  rcases Nat.lt_or_ge j i with k | k
  · have h1 := h.low j k
    rw [e] at h1
    rw [h1, List.getElem?_take_of_lt k, List.getElem?_eq_getElem (by rw [Array.length_toList]; omega), getElem!_pos dk j (by omega)]
    simp
  · rw [List.getElem?_eq_none (by rw [List.length_take]; omega), List.getElem?_eq_none (by omega)]
theorem toArr (xs : List Sl) (j : Nat) (h : j < xs.length) : xs.toArray[j]! = xs[j] := by
  rw [getElem!_pos xs.toArray j (by simpa using h)]
  simp
theorem delS_all {y : Int} {xs : List Sl} (h : ∀ (i : Nat) (hi : i < xs.length), dl y xs[i] = false) : delS y xs = xs := by
  unfold delS
  refine List.filter_eq_self.2 fun s hs => ?_
  obtain ⟨i, hi, rfl⟩ := List.getElem_of_mem hs
  have := h i hi
  unfold dl at this
  rw [this]; rfl

set_option maxRecDepth 100000 in
set_option maxHeartbeats 8000000 in
theorem delS_any (v : Value) (xs : List Sl) (b : Nat) (y : Int) (B : Nat) (w : World) (hB : B ≤ w.heap.size) (ho : OwnS w B v xs) (hl : xs.length ≤ 1000000) (hb : w.cell? ⟨b, 0, none⟩ = some (.int .i64 y)) (hbl : b < w.heap.size) (hne : v.ownBlock ≠ some b) :
    Calls Try.prog 44 #[v, .func (.func 45) #[] #[.pointer (some ⟨b, 0, none⟩)]] w fun e w' => ∃ v', e = .returned v' ∧ OwnS w' B v' (delS y xs) ∧ Gr v v' w w' := by
  obtain ⟨A, c, rfl, hrow⟩ := ho.is
  obtain ⟨n, hn⟩ : ∃ n, n = xs.length := ⟨_, rfl⟩
  have HI := hid (idxS_any A xs n c b y w hn (by omega) hrow hb hbl)
  have HO := hid ho
  have HB0 := hid hb
  have HNE := hid hne
  have HN := hid hn
  rw [← hn] at HO HNE hl ⊢
  clear ho hb hrow hne hn
  go_enter Try.func44, Try.ntmps44
  go_wp2_with fail
  (with_reducible refine (HI.out).mono ?_); rintro e w1 ⟨hcase, hbw⟩
  have HB1 := hid hbw
  have HO1 := hid (HO.out.next hbw)
  clear HI hbw
  rcases hcase with ⟨rfl, hall⟩ | ⟨k0, rfl, hk0, ⟨hk0', ht0⟩, hall⟩
  · have HD := hid (delS_all hall)
    clear hall
    go_wp2_with fail
    go_ret
    exact ⟨_, rfl, by rw [HD.out]; exact HO1.out, Gr.of_below HB1.out⟩
  · have hxs : xs ≠ [] := by intro e; subst e; simp at hk0'
    obtain ⟨g, cc, hv, hg1, hg2, hcap⟩ := HO1.out.one hxs
    rw [← HN.out] at hv hcap
    injection hv with hv1 _ hv3
    subst hv1; subst hv3
    have HK0 := hid (show Lib.KeptInv (kpS y xs.toArray) xs.toArray (k0 + 1) k0 xs.toArray from Lib.KeptInv.start (fun j hj => by unfold kpS; rw [toArr xs j (by have := HN.out; omega), hall j (by have := HN.out; omega) hj]; rfl) (by unfold kpS; rw [toArr xs k0 hk0', ht0]; rfl))
    have HBN := hid (show ¬ g = b from fun e => HNE.out (by rw [e]; rfl))
    have hne1 : ((k0 : Int) == -1) = false := beq_eq_false_iff_ne.2 (by omega)
    clear hall ht0 hk0' hxs HNE HO
    go_wp2_with fail
    go_loopw [5, 6] (fun s5 s6 wr => ∃ (i j : Nat) (dk : Array Sl), s5 = .int .i64 i ∧ s6 = .int .i64 j ∧ j ≤ n ∧ Hid (Lib.KeptInv (kpS y xs.toArray) xs.toArray j i dk) ∧ Hid (OwnS wr B (.slice (some ⟨g, 0, none⟩) n c) dk.toList) ∧ Hid (Gr (.slice (some ⟨g, 0, none⟩) n c) (.slice (some ⟨g, 0, none⟩) n c) w wr)) (fun _ s6 _ => n - (intOf s6).toNat)
    case atStart => exact ⟨k0, k0 + 1, xs.toArray, rfl, by go_num, by omega, HK0, hid HO1.out, hid (Gr.of_below HB1.out)⟩
    case round =>
      obtain ⟨wo, rfl⟩ : ∃ wo, wo = wr := ⟨_, rfl⟩
      obtain ⟨i, j, dk, rfl, rfl, hj, HK, HO2, HG⟩ := hrel
      have hij := HK.out.lt
      have hsz : dk.toList.length = n := by have := HK.out.size; rw [HN.out]; simpa using this
      have hrow : RowS wo (some ⟨g, 0, none⟩) dk.toList := by
        obtain ⟨A', c', e, hr⟩ := HO2.out.is
        injection e with e1
        rw [e1]; exact hr
      have hdk : ∀ (q : Nat) (hq : q < dk.toList.length), dk[q]! = dk.toList[q] := fun q hq => by rw [getElem!_pos dk q (by simpa using hq)]; simp
      by_cases hlt : j < n
      · have hjd : j < dk.toList.length := by omega
        obtain ⟨a, ha, hal, hsa⟩ := hrow.at_ hjd
        obtain rfl := Option.some.inj ha
        rw [adr0] at hsa
        have HXJ := hid (show xs.toArray[j]! = dk.toList[j] by rw [← hdk j hjd]; exact (HK.out.high j (by omega)).symm)
        generalize dk.toList[j] = s at hsa HXJ
        obtain ⟨c0, c1, c2, c3, c4⟩ := hsa
        have hgl : g < wo.heap.size := hal
        have HV := hid (Var.new wo (slc s) 77 _ rfl)
        have HB2 := hid ((Below.refl _ wo).alloc (Nat.le_refl _) (.cells (slc s) 77))
        have HO3 := hid (HO2.out.next HB2.out)
        have HG3 := hid (HG.out.next HB2.out)
        clear HG HO2 hrow ha hal hdk
        go_upto_region 8 with fail
        obtain ⟨X3, hX3⟩ : ∃ X3, X3 = wo.alloc (.cells (slc s) 77) := ⟨_, rfl⟩
        rw [← hX3] at HV HB2 HO3 HG3
        rw [← hX3]
        clear hX3 c0 c1 c2 c3 c4
        obtain ⟨k0, k1, k2, k3, k4, kf⟩ := HV.out.read5
        have HC := hid (fill1_any s b y X3 (HG3.out.cellk hbl (fun e => HBN.out (by injection e)) HB0.out) (Nat.lt_of_lt_of_le hbl HG3.out.size))
        cases hy : dl y s with
        | true =>
          rw [hy] at HC
          have HK2 := hid (HK.out.skip (show kpS y xs.toArray j = false by unfold kpS; rw [HXJ.out, hy]; rfl))
          clear hy
          go_wp2_with fail
          (with_reducible refine (HC.out).mono ?_); rintro e w2 ⟨rfl, hbw⟩
          have HO4 := hid (HO3.out.next hbw)
          have HG4 := hid (HG3.out.next hbw)
          clear hbw k0 k1 k2 k3 k4 kf
          go_wp2_with fail
          go_roundw
          case rel => exact ⟨i, j + 1, dk, rfl, by go_num, by omega, HK2, HO4, HG4⟩
          case measure => simp [intOf]; omega
        | false =>
          rw [hy] at HC
          have HK2 := hid (HK.out.keep (show j < xs.toArray.size by rw [List.size_toArray, ← HN.out]; exact hlt) (show kpS y xs.toArray j = true by unfold kpS; rw [HXJ.out, hy]; rfl))
          rw [HXJ.out] at HK2
          clear hy
          go_wp2_with fail
          (with_reducible refine (HC.out).mono ?_); rintro e w2 ⟨rfl, hbw⟩
          have HO4 := hid (HO3.out.next hbw)
          have HG4 := hid (HG3.out.next hbw)
          have HV4 := hid (HV.out.next hbw)
          clear hbw k0 k1 k2 k3 k4 kf
          obtain ⟨k0, k1, k2, k3, k4, kf⟩ := HV4.out.read5
          have hil : i < dk.toList.length := by omega
          have hown : w2.ownsRow B 77 5 (.slice (some ⟨g, 0, none⟩) n c) n (flatS dk.toList) := by
            have := HO4.out
            unfold OwnS at this
            rw [hsz] at this
            exact this
          have g0 := World.ownsRow.cellAt hown (i * 5) (by omega)
          have g1 := World.ownsRow.cellAt hown (i * 5 + 1) (by omega)
          have g2 := World.ownsRow.cellAt hown (i * 5 + 2) (by omega)
          have g3 := World.ownsRow.cellAt hown (i * 5 + 3) (by omega)
          have g4 := World.ownsRow.cellAt hown (i * 5 + 4) (by omega)
          rw [List.getElem?_eq_getElem (by rw [flatS_length]; omega)] at g0 g1 g2 g3 g4
          have f0 := World.ownsRow.frozenAt hown (i * 5)
          have f1 := World.ownsRow.frozenAt hown (i * 5 + 1)
          have f2 := World.ownsRow.frozenAt hown (i * 5 + 2)
          have f3 := World.ownsRow.frozenAt hown (i * 5 + 3)
          have f4 := World.ownsRow.frozenAt hown (i * 5 + 4)
          generalize (flatS dk.toList)[i * 5]'_ = u0 at g0
          generalize (flatS dk.toList)[i * 5 + 1]'_ = u1 at g1
          generalize (flatS dk.toList)[i * 5 + 2]'_ = u2 at g2
          generalize (flatS dk.toList)[i * 5 + 3]'_ = u3 at g3
          generalize (flatS dk.toList)[i * 5 + 4]'_ = u4 at g4
          have HOS := hid (show OwnS _ B (.slice (some ⟨g, 0, none⟩) n c) (dk.setIfInBounds i s).toList by rw [Array.toList_setIfInBounds]; exact HO4.out.setAt hsz.symm hil s)
          have HGS := hid (HG4.out.set5 (a0 := i * 5) (a1 := i * 5 + 1) (a2 := i * 5 + 2) (a3 := i * 5 + 3) (a4 := i * 5 + 4) (u0 := .int .i64 s.t.x) (u1 := .int .i64 s.t.y) (u2 := .int .i64 s.b.x) (u3 := .int .i64 s.b.y) (u4 := .int .i64 s.d))
          clear HO4 HG4 HO3 HG3 hown
          go_wp2_with fail
          go_roundw
          case rel => exact ⟨i + 1, j + 1, dk.setIfInBounds i s, by go_num, by go_num, by omega, HK2, HOS, HGS⟩
          case measure => simp [intOf]; omega
      · obtain rfl : j = n := by omega
        have hsz' : dk.toList.length = j := hsz
        obtain ⟨vs, hcl⟩ := run_clearS HO2.out hsz'.symm (show i < dk.toList.length by omega) (j - i) (by omega) (c - i)
        have HT := hid (kept_take HN.out HK.out)
        have hown : wo.ownsRow B 77 5 (.slice (some ⟨g, 0, none⟩) j c) j (flatS dk.toList) := by
          have := HO2.out
          unfold OwnS at this
          rw [hsz'] at this
          exact this
        have hcm : c ≤ maxLen := by
          rcases hown.2 with ⟨e0, _⟩ | ⟨g', cap', cur, e0, -, -, -, hm, -, -⟩
          · cases e0
          · injection e0 with _ _ e3
            rw [e3]; exact hm
        unfold maxLen at hcm
        have hcut := own_cut hown (show i ≤ j by omega)
        rw [flatS_take dk.toList i (by omega), HT.out] at hcut
        have HEND := hid (own_beyond vs (i * 5) wo hcut (Nat.le_refl _))
        have HGE := hid (gr_cells (g := g) vs (i * 5) wo)
        have hdl : (delS y xs).length = i := by rw [← HT.out, List.length_take]; omega
        have HDL := hid hdl
        have hci : ¬ c = i := by omega
        have hic : (i : Int) ≤ (c : Int) := by omega
        have hij2 : (i : Int) ≤ (j : Int) := by omega
        have hi0 : (0 : Int) ≤ (i : Int) := Int.natCast_nonneg _
        clear hcut hown hdl hdk hrow hsz HK HO1 HO2
        go_wp2_with fail
        go_ret
        exact ⟨.slice (some ⟨g, 0, none⟩) i c, rfl, by unfold OwnS; rw [HDL.out]; exact HEND.out, HG.out.trans ⟨HGE.out, fun k h => .inl h⟩⟩
end Go.Proofs.Ytijkoaggcmgjiaa
