/- rowEnd of package region: where a row ends. -/
import Derived.Test.YtldbpabnfjnpbaaComb
import Derived.Test.YtldbpabnfjnpbaaOps
import Derived.Test.YtldbpabnfjnpbaaOwn
namespace Go.Proofs.Ytldbpabnfjnpbaa
open Go Go.RowKit
set_option linter.unusedVariables false
set_option linter.unusedSimpArgs false

/-- The runs of the first row. -/
def rowOf (y : Int) (xs : List Rn) : List Rn := xs.takeWhile fun r => decide (r.y = y)
theorem rowOf_at {y : Int} : ∀ {xs : List Rn} {j : Nat} (hj : j < xs.length), (∀ (i : Nat) (hi : i < xs.length), i < j → xs[i].y = y) → xs[j].y ≠ y → (rowOf y xs).length = j
  | r :: xs, 0, _, _, h => by
    unfold rowOf
    rw [List.takeWhile_cons_of_neg (by simpa using h)]
    rfl
  | r :: xs, j + 1, hj, ha, h => by
    have h0 := ha 0 (by simp) (by omega)
    unfold rowOf
    rw [List.takeWhile_cons_of_pos (by simpa using h0), List.length_cons]
    have := rowOf_at (y := y) (xs := xs) (j := j) (by simpa using hj) (fun i hi hij => by have := ha (i + 1) (by simpa using hi) (by omega); simpa using this) (by simpa using h)
    unfold rowOf at this
    rw [this]
theorem rowOf_all {y : Int} : ∀ {xs : List Rn}, (∀ (i : Nat) (hi : i < xs.length), xs[i].y = y) → rowOf y xs = xs
  | [], _ => rfl
  | r :: xs, ha => by
    have h0 := ha 0 (by simp)
    unfold rowOf
    rw [List.takeWhile_cons_of_pos (by simpa using h0)]
    have := rowOf_all (y := y) (xs := xs) (fun i hi => by have := ha (i + 1) (by simpa using hi); simpa using this)
    unfold rowOf at this
    rw [this]

/-- The answer of IndexFunc. -/
def idxV (len n : Nat) : Int := if len < n then len else -1
theorem idxV_lt {len n : Nat} (h : len < n) : idxV len n = len := if_pos h
theorem idxV_all (n : Nat) : idxV n n = -1 := if_neg (Nat.lt_irrefl n)

theorem rendC_any (b1 b2 n c b : Nat) (a : Addr) (r q : Rn) (w : World) (hr : w.cell? ⟨b1, 0, none⟩ = some (.slice (some a) n c)) (hb : w.cell? ⟨b2, 0, none⟩ = some (.int .i64 b)) (hq : RnAt w (a.add (b * 3)) q) (hbn : b < n) (hb1 : b1 < w.heap.size) (hb2 : b2 < w.heap.size) (ha : a.block < w.heap.size) :
    Calls Try.prog 76 #[rn r, .pointer (some ⟨b1, 0, none⟩), .pointer (some ⟨b2, 0, none⟩)] w fun e w' => e = .returned (.bool (r.y != q.y)) ∧ Below w.heap.size w w' := by
  obtain ⟨W, hW⟩ : ∃ W, W = w.alloc (.cells (cel r) 37) := ⟨_, rfl⟩
  have HB := hid (show Below w.heap.size w W by rw [hW]; exact below_alloc (Below.refl _ w) _)
  have hV : Var W w.heap.size (cel r) 37 := by rw [hW]; exact Var.new _ _ _ _ rfl
  obtain ⟨p0, -, -, -⟩ := hV.read3
  have c1 := (HB.out.cell (p := ⟨b1, 0, none⟩) hb1).trans hr
  have c2 := (HB.out.cell (p := ⟨b2, 0, none⟩) hb2).trans hb
  obtain ⟨c0, -, -⟩ := hq
  have c3 := (HB.out.cell (p := a.add (b * 3)) (by rw [add_block]; exact ha)).trans c0
  have hbi : (b : Int) < (n : Int) := by omega
  have hb0 : (0 : Int) ≤ (b : Int) := Int.natCast_nonneg _
  clear hr hb c0 hV
  go_enter Try.func76, Try.ntmps76
  go_upto_region 1 with fail
  rw [← hW]
  clear hW
  go_quiet (fail)
  have HBq := hid (below_next HB.out (below_drewN (Below.refl W.heap.size W) nq))
  go_wp2_with fail
  go_ret
  exact ⟨rfl, HBq.out⟩

set_option maxHeartbeats 1000000 in
theorem idxR_any (A : Option Addr) (xs : List Rn) (n c b1 b2 N C b : Nat) (a : Addr) (q : Rn) (w : World) (hn : n = xs.length) (hl : n ≤ maxLen) (hs : Runs w A xs) (hr : w.cell? ⟨b1, 0, none⟩ = some (.slice (some a) N C)) (hb : w.cell? ⟨b2, 0, none⟩ = some (.int .i64 b)) (hq : RnAt w (a.add (b * 3)) q) (hbn : b < N) (hb1 : b1 < w.heap.size) (hb2 : b2 < w.heap.size) (ha : a.block < w.heap.size) :
    Calls Try.prog 75 #[.slice A n c, .func (.func 76) #[] #[.pointer (some ⟨b1, 0, none⟩), .pointer (some ⟨b2, 0, none⟩)]] w fun e w' =>
      e = .returned (.int .i64 (idxV (rowOf q.y xs).length n)) ∧ Below w.heap.size w w' := by
  have HS := hid hs
  have HN := hid hn
  have HR := hid hr
  have HB0 := hid hb
  have HQ := hid hq
  unfold maxLen at hl
  clear hs hn hr hb hq
  go_enter Try.func75, Try.ntmps75
  go_wp2_with fail
  go_loopw [8] (fun s8 wr => ∃ (j : Nat), j ≤ n ∧ s8 = .int .i64 j ∧ Hid (∀ (i : Nat) (hi : i < xs.length), i < j → xs[i].y = q.y) ∧ Hid (Below w.heap.size w wr)) (fun s8 _ => n - (intOf s8).toNat)
  case atStart => exact ⟨0, Nat.zero_le _, rfl, hid (fun i hi h => absurd h (Nat.not_lt_zero _)), hid (Below.refl _ _)⟩
  case round =>
    obtain ⟨j, hj, rfl, HT, HB⟩ := hrel
    by_cases hlt : j < n
    · have hjl : j < xs.length := by rw [← HN.out]; exact hlt
      obtain ⟨a', rfl, hal, hsa⟩ := (HS.out.next HB.out).at_ hjl
      have HA := hid (fun (e : xs[j].y = q.y) => show ∀ (i : Nat) (hi : i < xs.length), i < j + 1 → xs[i].y = q.y from fun i hi h => by
        rcases Nat.lt_or_ge i j with k | k
        · exact HT.out i hi k
        · obtain rfl : i = j := by omega
          exact e)
      have HI := hid (fun (e : xs[j].y ≠ q.y) => rowOf_at hjl HT.out e)
      generalize xs[j] = r at hsa HA HI
      obtain ⟨q0, q1, q2⟩ := hsa
      have HC := hid (rendC_any b1 b2 N C b a r q wr ((HB.out.cell (p := ⟨b1, 0, none⟩) hb1).trans HR.out) ((HB.out.cell (p := ⟨b2, 0, none⟩) hb2).trans HB0.out) (HQ.out.below HB.out (by rw [add_block]; exact ha)) hbn (Nat.lt_of_lt_of_le hb1 HB.out.size) (Nat.lt_of_lt_of_le hb2 HB.out.size) (Nat.lt_of_lt_of_le ha HB.out.size))
      by_cases hy : r.y = q.y
      · have HA1 := hid (HA.out hy)
        rw [show (r.y != q.y) = false by simpa using hy] at HC
        clear hy
        go_wp2_with fail
        (with_reducible refine (HC.out).mono ?_); rintro e w2 ⟨rfl, hb⟩
        have HB2 := hid (below_next HB.out hb)
        clear hb
        go_wp2_with fail
        go_roundw
        case rel => exact ⟨j + 1, by omega, by go_num, HA1, HB2⟩
        case measure => simp [intOf]; omega
      · have HF := hid (HI.out hy)
        rw [show (r.y != q.y) = true by simpa using hy] at HC
        clear hy
        go_wp2_with fail
        (with_reducible refine (HC.out).mono ?_); rintro e w2 ⟨rfl, hb⟩
        have HB2 := hid (below_next HB.out hb)
        clear hb
        go_wp2_with fail
        go_ret
        exact ⟨by rw [HF.out, idxV_lt hlt]; rfl, HB2.out⟩
    · have HE := hid (show (rowOf q.y xs).length = n by
        rw [rowOf_all (fun i hi => HT.out i hi (by have := HN.out; omega))]; exact HN.out.symm)
      go_wp2_with fail
      go_ret
      exact ⟨by rw [HE.out, idxV_all]; rfl, HB.out⟩

end Go.Proofs.Ytldbpabnfjnpbaa
