/- A text as a row of bytes and back; a number cut to a range. -/
import Derived.Test.YtijkoaggcmgjiabDoorDec
import Derived.Test.YtijkoaggcmgjiabDoorWords
import Derived.Lib.ConvBytes
import Derived.Laws.IdiomStrings
namespace Go.Proofs.YtijkoaggcmgjiabDoor
open Go Go.RowKit
set_option linter.unusedVariables false
set_option linter.unusedSimpArgs false

theorem pcut_val (x lo hi : Int) (w : World) (h : lo ≤ hi) (hn : hi - lo < 4611686018427387904) (hl : -4611686018427387904 ≤ lo) (hh : hi ≤ 4611686018427387904) :
    Calls Tryd.prog 7 #[.int .i64 x, .int .i64 lo, .int .i64 hi] w fun e w' => e = .returned (.int .i64 (lo + x.tmod (hi - lo + 1) % (hi - lo + 1))) ∧ w = w' := by
  have t1 := Int.lt_tmod_of_pos x (show 0 < hi - lo + 1 by omega)
  have t2 := Int.tmod_lt_of_pos x (show 0 < hi - lo + 1 by omega)
  have t3 := Int.emod_nonneg (x.tmod (hi - lo + 1)) (show hi - lo + 1 ≠ 0 by omega)
  have t4 := Int.emod_lt_of_pos (x.tmod (hi - lo + 1)) (show 0 < hi - lo + 1 by omega)
  go_enter Tryd.func7, Tryd.ntmps7
  go_wp2
  go_ret
  exact ⟨rfl, rfl⟩
/-- A place within a row. -/
theorem pcut_in (x : Int) (n : Nat) (w : World) (hn : 0 < n) (hm : n ≤ 1000000) :
    Calls Tryd.prog 7 #[.int .i64 x, .int .i64 0, .int .i64 ((n : Int) - 1)] w fun e w' => (∃ i : Nat, i < n ∧ e = .returned (.int .i64 i)) ∧ w = w' :=
  (pcut_val x 0 ((n : Int) - 1) w (by omega) (by omega) (by omega) (by omega)).mono fun e w' ⟨he, hw⟩ => by
    have t3 := Int.emod_nonneg (x.tmod ((n : Int) - 1 - 0 + 1)) (show ((n : Int) - 1 - 0 + 1) ≠ 0 by omega)
    have t4 := Int.emod_lt_of_pos (x.tmod ((n : Int) - 1 - 0 + 1)) (show 0 < ((n : Int) - 1 - 0 + 1) by omega)
    refine ⟨⟨(x.tmod ((n : Int) - 1 - 0 + 1) % ((n : Int) - 1 - 0 + 1)).toNat, by omega, ?_⟩, hw⟩
    rw [he, Int.toNat_of_nonneg t3, Int.zero_add]

/-- A block whose first cells are bytes. -/
structure BlkB (w : World) (g : Nat) (l : List UInt8) : Prop where
  c : ∀ j (h : j < l.length), w.cell? ⟨g, j, none⟩ = some (.int .u8 (l[j].toNat : Int))
  f : ∀ j, j < l.length → w.frozen? ⟨g, j, none⟩ = false
  lt : g < w.heap.size
theorem BlkB.set {w : World} {g i : Nat} {l : List UInt8} (h : BlkB w g l) (hi : i < l.length) (b : UInt8) : BlkB (w.setCell ⟨g, i, none⟩ (.int .u8 (b.toNat : Int))) g (l.set i b) := by
  refine ⟨fun j hj => ?_, fun j hj => ?_, by simpa [World.setCell] using h.lt⟩
  · have hj' : j < l.length := by simpa using hj
    by_cases e : j = i
    · subst e
      rw [World.cell?_setCell_same w _ _ (h.c j hj')]
      simp
    · rw [World.cell?_setCell_other w _ _ _ (by simp [e]), h.c j hj']
      rw [List.getElem_set_ne (Ne.symm e)]
  · have hj' : j < l.length := by simpa using hj
    have := h.f j hj'
    simpa [World.frozen?_setCell] using this
theorem BlkB.next {w w' : World} {g : Nat} {l : List UInt8} (h : BlkB w g l) (hb : Below w.heap.size w w') : BlkB w' g l :=
  ⟨fun j hj => (hb.cell (p := ⟨g, j, none⟩) h.lt).trans (h.c j hj), fun j hj => (World.frozen?_of_block (a := ⟨g, j, none⟩) (hb.block g h.lt)).trans (h.f j hj), Nat.lt_of_lt_of_le h.lt hb.size⟩
theorem to_bytes (w : World) (l : List UInt8) : ∃ c W', (convert 9 26 (.string (S l))).run Tryd.prog w = .ok (.slice (some ⟨w.heap.size, 0, none⟩) l.length c) W' ∧ BlkB W' w.heap.size l ∧ Below w.heap.size w W' := by
  have e := Lib.run_convert_string_bytes (P := Tryd.prog) w 9 26 5 (S l) Tryd.underlying9 Tryd.underlying26 Tryd.underlying5
  have hsz : (S l).size = l.length := S_size l
  refine ⟨grownCap w l.length 0 5, Lib.bytesWorld w 5 (S l), by rw [e, hsz], ⟨fun j hj => ?_, fun j hj => ?_, ?_⟩, ⟨rfl, rfl, rfl, ?_, fun k hk => ?_⟩⟩
  · rw [Lib.bytesWorld_cell w _ (S l) j (by rw [hsz]; exact hj)]
    simp [S, List.getD, hj]
  · have h1 := Lib.bytesWorld_at_new w 5 (S l)
    have h2 : j < (Lib.bytesCells w 5 (S l)).size := by
      unfold Lib.bytesCells
      simp only [Array.size_append, Array.size_map, Array.size_replicate]
      have : (S l).data.size = l.length := hsz
      omega
    unfold World.frozen?
    simp [h1]
    omega
  · rw [Lib.bytesWorld_size]; omega
  · rw [Lib.bytesWorld_size]; omega
  · exact Lib.bytesWorld_at_old w _ _ k hk
theorem of_bytes {w : World} {g : Nat} {l : List UInt8} (h : BlkB w g l) (c : Nat) : (convert 26 9 (.slice (some ⟨g, 0, none⟩) l.length c)).run Tryd.prog w = .ok (.string (S l)) w :=
  run_convert_bytes_back w 26 9 5 ⟨g, 0, none⟩ c l Tryd.underlying26 Tryd.underlying5 Tryd.underlying9 fun j hj => by
    rw [show (⟨g, 0, none⟩ : Addr).add j = ⟨g, j, none⟩ by unfold Addr.add; split <;> simp_all]
    exact h.c j hj
theorem segT_pos (s : Sg) : 0 < (segT s).length := by
  unfold segT words
  split
  · simp
  · split
    · simp
    · split <;> simp
theorem textOf_pos {ss : List Sg} (h : ss ≠ []) : 0 < (textOf ss).length := by
  cases ss with
  | nil => exact absurd rfl h
  | cons s r =>
    unfold textOf
    rw [List.map_cons, Lib.join_cons, List.length_append]
    have := segT_pos s
    omega
theorem store_bd {b : Int} (h : 0 ≤ b ∧ b ≤ 255) : ((UInt8.ofNat b.toNat).toNat : Int) = b := by
  rw [UInt8.toNat_ofNat']
  omega
end Go.Proofs.YtijkoaggcmgjiabDoor
