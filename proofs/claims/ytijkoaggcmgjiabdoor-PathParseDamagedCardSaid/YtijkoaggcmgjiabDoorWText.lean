/- The words of a segment: wordsText and segText of package path. -/
import Derived.Test.YtijkoaggcmgjiabDoorAppI
import Derived.Test.YtijkoaggcmgjiabDoorWords
import Derived.RegionTactic
namespace Go.Proofs.YtijkoaggcmgjiabDoor
open Go Go.RowKit
set_option linter.unusedVariables false

theorem own_of_string (w : World) (B : Nat) (s : ByteArray) (hB : B ≤ w.heap.size) (hs : s.size ≤ maxLen) :
    OwnM (Lib.bytesWorld w 5 s) B 5 (.slice (some ⟨w.heap.size, 0, none⟩) s.size (grownCap w s.size 0 5)) s.size (Lib.strCells s) := by
  have hge := grownCap_ge w s.size 0 5
  have hsz : (Lib.bytesCells w 5 s).size = grownCap w s.size 0 5 := by
    simp only [Lib.bytesCells, Array.size_append, Array.size_map, Array.size_replicate]
    have : s.data.size = s.size := rfl
    omega
  refine ⟨Lib.strCells_length s, w.heap.size, _, Lib.bytesCells w 5 s, _, rfl, hB, Lib.bytesWorld_at_new w 5 s, .inr (Nat.le_refl _), hge, grownCap_le_maxLen w s.size 0 5 hs, hsz, ?_⟩
  have e : (Lib.bytesCells w 5 s).toList = Lib.strCells s ++ (Array.replicate (grownCap w s.size 0 5 - s.size) (Value.int .u8 0)).toList := by
    simp [Lib.bytesCells, Lib.strCells]
  rw [e, List.take_left' (Lib.strCells_length s)]

theorem lies_next {w w' : World} {b off : Nat} {zs : List Int} (h : Lies w b off zs) {B : Nat} (hb : Below B w w') (hl : b < B) : Lies w' b off zs := fun i hi => (hb.cell hl).trans (h i hi)

set_option maxHeartbeats 6400000 in
set_option maxRecDepth 100000 in
theorem wordsText_any (k : UInt8) (zs : List Int) (b off n cap : Nat) (w : World) (hn : n = zs.length) (hl : zs.length ≤ 5) (hz : ∀ z ∈ zs, I64 z) (hc : Lies w b off zs) (hb : b < w.heap.size) (htab : Tab w) :
    Calls Tryd.prog 27 #[.string ⟨#[k]⟩, .slice (some ⟨b, off, none⟩) n cap] w fun e w' => e = .returned (.string ⟨(words k zs).toArray⟩) ∧ Below w.heap.size w w' := by
  obtain ⟨i0, hi, hz0, hz1, hz2⟩ := info_parts infoByte
  have HZ := hid hz
  have HT := hid (Lib.tabBelow_of_tabIs htab)
  have hcv := Lib.run_convert_string_bytes (P := Tryd.prog) w 9 26 5 ⟨#[k]⟩ (u := .string) Tryd.underlying9 Tryd.underlying26 Tryd.underlying5
  have HO := hid (own_of_string w w.heap.size ⟨#[k]⟩ (Nat.le_refl _) (by show 1 ≤ maxLen; decide))
  have HB := hid (Lib.bytesWorld_below w 5 ⟨#[k]⟩)
  have HC := hid hc
  rw [show (⟨#[k]⟩ : ByteArray).size = 1 from rfl] at hcv HO
  rw [show Lib.strCells ⟨#[k]⟩ = Lib.byteCells (words k (zs.take 0)) from rfl] at HO
  generalize Lib.bytesWorld w 5 ⟨#[k]⟩ = W1 at hcv HO HB
  generalize grownCap w 1 0 5 = c1 at hcv HO
  clear hc hz htab
  subst hn
  go_enter Tryd.func27, Tryd.ntmps27
  go_wp2_with fail
  go_loopw [5, 12] (fun s5 s12 wr => ∃ (j m : Nat), j ≤ zs.length ∧ s12 = .int .i64 j ∧ m ≤ 1 + 22 * j ∧ Hid (OwnM wr w.heap.size 5 s5 m (Lib.byteCells (words k (zs.take j)))) ∧ Hid (Below w.heap.size w wr)) (fun _ s12 _ => zs.length - (intOf s12).toNat)
  case atStart => exact ⟨0, 1, Nat.zero_le _, rfl, by omega, HO, HB⟩
  case round =>
    obtain ⟨j, m, hj, rfl, hm, HJ, HBJ⟩ := hrel
    by_cases hlt : j < zs.length
    · have hcell := lies_next HC.out HBJ.out hb j hlt
      have HW := hid (words_take k zs j hlt)
      have hzj := HZ.out zs[j] (List.getElem_mem hlt)
      rw [show zs.getD j 0 = zs[j] by simp [hlt]] at hcell
      generalize zs[j] = z at hcell HW hzj
      obtain ⟨z0, z1⟩ := hzj
      have HK := hid (HJ.out.keep (below_alloc (Below.refl _ wr) (.cells #[.int .u8 32] 5)))
      go_wp2_with (at_builtin; refine wpList_append_by rfl _ _ _ _ rfl _ _ rfl rfl (run_append_m w.heap.size _ _ _ i0 Tryd.underlying26 hi hz0 hz1 hz2 _ m _ HK.out ⟨wr.heap.size, 0, none⟩ 1 1 [Value.int .u8 32] rfl (by intro j u' hj; match j, hj with | 0, hj => simp at hj; subst hj; simp [Addr.add]) (by intro u' hu'; simp at hu'; subst hu'; rfl) (by unfold maxLen; omega) (by omega)) ?_)
      intro v1 w1 h2 h3
      have H1 := hid h2
      have HB1 := hid ((HBJ.out.alloc HBJ.out.size (.cells #[.int .u8 32] 5)).trans h3)
      have HT1 := hid (HT.out.on HB1.out)
      clear h2 h3 HK
      go_wp2_with (go_at_call 36; refine (appendInt_any w.heap.size (m + 1) z z0 z1 v1 _ w1 H1.out (by omega) HT1.out).mono ?_; rintro e w2 ⟨v2, rfl, hown2, hnx2⟩; refine Hid.out ?_)
      refine Lib.hid ?_
      have eL : Lib.byteCells (words k (zs.take j)) ++ [Value.int .u8 32] ++ Lib.byteCells (Lib.itoa z) = Lib.byteCells (words k (zs.take (j + 1))) := by rw [HW.out]; simp [Lib.byteCells]
      rw [eL] at hown2
      have H2 := hid hown2
      have HB2 := hid (HB1.out.trans hnx2)
      have hle := Lib.itoa_length_le z z0 z1
      clear hown2 hnx2 eL
      go_wp2_with fail
      go_roundw
      case rel => exact ⟨j + 1, _, by omega, by go_num, by omega, H2, HB2⟩
      case measure => simp [intOf]; omega
    · have hjl : j = zs.length := by omega
      subst hjl
      rw [List.take_length] at HJ
      obtain ⟨l, hl'⟩ : ∃ l, l = words k zs := ⟨_, rfl⟩
      rw [← hl'] at HJ
      have HL := hid hl'
      clear hl'
      obtain ⟨g, cap', hv, hcs⟩ := HJ.out.cells
      have hml : m = l.length := by rw [← HJ.out.1]; simp [Lib.byteCells]
      clear HJ HO hcv
      subst hml
      subst hv
      have hcv := run_convert_bytes_back (P := Tryd.prog) wr 26 9 5 ⟨g, 0, none⟩ cap' l Tryd.underlying26 Tryd.underlying5 Tryd.underlying9 (fun j hj => hcs j _ (by simp [Lib.byteCells, hj]))
      clear hcs
      go_wp2
      go_ret
      have hl := HL.out
      subst hl
      exact ⟨rfl, HBJ.out⟩

theorem tab_next {w w' : World} (h : Tab w) (hb : Below w.heap.size w w') : Tab w' := Lib.tabBelow_of_tabIs h w' hb
theorem Var.liesL {w : World} {n : Nat} {zs : List Int} {t : TypeId} (h : Var w n (zs.map (Value.int .i64)).toArray t) : Lies w n 0 zs := by
  intro i hi
  rw [h.cell]
  simp [hi]

theorem segText_two (k : Int) (c : UInt8) (x y u v z : Int) (w : World) (h : k = 1 ∧ c = 109 ∨ k = 2 ∧ c = 108) (hx : I64 x) (hy : I64 y) (htab : Tab w) :
    Calls Tryd.prog 20 #[seg ⟨k, x, y, u, v, z⟩] w fun e w' => e = .returned (.string ⟨(words c [x, y]).toArray⟩) ∧ Below w.heap.size w w' := by
  have HT := hid (tab_next htab (below_alloc (below_alloc (Below.refl _ w) (.cells (cel ⟨k, x, y, u, v, z⟩) 38)) (.cells #[.int .i64 x, .int .i64 y] 3)))
  have HB := hid (below_alloc (below_alloc (Below.refl _ w) (.cells (cel ⟨k, x, y, u, v, z⟩) 38)) (.cells #[.int .i64 x, .int .i64 y] 3))
  have HX := hid (show ∀ q ∈ [x, y], I64 q from fun q hq => by
    simp only [List.mem_cons, List.not_mem_nil, or_false] at hq
    rcases hq with rfl | rfl <;> assumption)
  have HV := hid (Var.liesL (zs := [x, y]) (Var.new (w.alloc (.cells (cel ⟨k, x, y, u, v, z⟩) 38)) #[.int .i64 x, .int .i64 y] 3 (w.heap.size + 1) (by simp)))
  clear htab hx hy
  rcases h with ⟨rfl, rfl⟩ | ⟨rfl, rfl⟩
  all_goals
    go_enter Tryd.func20, Tryd.ntmps20
    go_wp2_with fail
    (with_reducible refine (wordsText_any _ [x, y] (w.heap.size + 1) 0 2 2 _ rfl (by simp) HX.out HV.out (by simp) HT.out).mono ?_); rintro e w1 ⟨rfl, hb⟩
    have HB1 := hid (below_next HB.out hb)
    clear hb HT HV HB
    go_wp2_with fail
    go_ret
    exact ⟨rfl, HB1.out⟩
theorem segText_five (x y u v z : Int) (w : World) (hx : I64 x) (hy : I64 y) (hu : I64 u) (hv : I64 v) (hz : I64 z) (htab : Tab w) :
    Calls Tryd.prog 20 #[seg ⟨3, x, y, u, v, z⟩] w fun e w' => e = .returned (.string ⟨(words 113 [u, v, x, y, z]).toArray⟩) ∧ Below w.heap.size w w' := by
  have HT := hid (tab_next htab (below_alloc (below_alloc (Below.refl _ w) (.cells (cel ⟨3, x, y, u, v, z⟩) 38)) (.cells #[.int .i64 u, .int .i64 v, .int .i64 x, .int .i64 y, .int .i64 z] 3)))
  have HB := hid (below_alloc (below_alloc (Below.refl _ w) (.cells (cel ⟨3, x, y, u, v, z⟩) 38)) (.cells #[.int .i64 u, .int .i64 v, .int .i64 x, .int .i64 y, .int .i64 z] 3))
  have HX := hid (show ∀ q ∈ [u, v, x, y, z], I64 q from fun q hq => by
    simp only [List.mem_cons, List.not_mem_nil, or_false] at hq
    rcases hq with rfl | rfl | rfl | rfl | rfl <;> assumption)
  have HV := hid (Var.liesL (zs := [u, v, x, y, z]) (Var.new (w.alloc (.cells (cel ⟨3, x, y, u, v, z⟩) 38)) #[.int .i64 u, .int .i64 v, .int .i64 x, .int .i64 y, .int .i64 z] 3 (w.heap.size + 1) (by simp)))
  clear htab hx hy hu hv hz
  go_enter Tryd.func20, Tryd.ntmps20
  go_wp2_with fail
  (with_reducible refine (wordsText_any _ [u, v, x, y, z] (w.heap.size + 1) 0 5 5 _ rfl (by simp) HX.out HV.out (by simp) HT.out).mono ?_); rintro e w1 ⟨rfl, hb⟩
  have HB1 := hid (below_next HB.out hb)
  clear hb HT HV HB
  go_wp2_with fail
  go_ret
  exact ⟨rfl, HB1.out⟩
theorem segText_none (k x y u v z : Int) (w : World) (h1 : k ≠ 1) (h2 : k ≠ 2) (h3 : k ≠ 3) :
    Calls Tryd.prog 20 #[seg ⟨k, x, y, u, v, z⟩] w fun e w' => e = .returned (.string ⟨#[104]⟩) ∧ Below w.heap.size w w' := by
  have e1 : (k == 1) = false := by simp [h1]
  have e2 : (k == 2) = false := by simp [h2]
  have e3 : (k == 3) = false := by simp [h3]
  clear h1 h2 h3
  go_enter Tryd.func20, Tryd.ntmps20
  go_wp2_with fail
  go_ret
  exact ⟨rfl, below_alloc (Below.refl _ w) _⟩
theorem segText_any (s : Sg) (w : World) (hf : Fit s) (htab : Tab w) : Calls Tryd.prog 20 #[seg s] w fun e w' => e = .returned (.string (segB s)) ∧ Below w.heap.size w w' := by
  obtain ⟨k, x, y, u, v, z⟩ := s
  obtain ⟨hx, hy, hu, hv, hz⟩ := hf
  unfold segB segT
  by_cases h1 : k = 1
  · rw [if_pos h1]; exact segText_two k 109 x y u v z w (.inl ⟨h1, rfl⟩) hx hy htab
  · rw [if_neg h1]
    by_cases h2 : k = 2
    · rw [if_pos h2]; exact segText_two k 108 x y u v z w (.inr ⟨h2, rfl⟩) hx hy htab
    · rw [if_neg h2]
      by_cases h3 : k = 3
      · rw [if_pos h3]; subst h3; exact segText_five x y u v z w hx hy hu hv hz htab
      · rw [if_neg h3]; exact segText_none k x y u v z w h1 h2 h3

end Go.Proofs.YtijkoaggcmgjiabDoor
