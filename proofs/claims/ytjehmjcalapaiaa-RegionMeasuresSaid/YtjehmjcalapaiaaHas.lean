/- Has of package region. -/
import Derived.Test.YtjehmjcalapaiaaIdx
import Derived.Test.YtjehmjcalapaiaaChk
namespace Go.Proofs.Ytjehmjcalapaiaa
open Go Go.RowKit
set_option linter.unusedVariables false

theorem cont_any (A : Option Addr) (ss : List Rn) (n c b1 b2 : Nat) (x y : Int) (w : World) (hn : n = ss.length) (hl : n ≤ maxLen) (hs : Runs w A ss) (hy : w.cell? ⟨b1, 0, none⟩ = some (.int .i64 y)) (hx : w.cell? ⟨b2, 0, none⟩ = some (.int .i64 x)) (hb1 : b1 < w.heap.size) (hb2 : b2 < w.heap.size) :
    Calls Try.prog 74 #[.slice A n c, .func (.func 75) #[] #[.pointer (some ⟨b1, 0, none⟩), .pointer (some ⟨b2, 0, none⟩)]] w fun e w' =>
      e = .returned (.bool (has ss x y)) ∧ Below w.heap.size w w' := by
  have hcon := idxC_any A ss n c b1 b2 x y w hn hl hs hy hx hb1 hb2
  have HC := hid hcon
  clear hcon hn hs hy hx
  go_enter Try.func74, Try.ntmps74
  go_wp2_with fail
  (with_reducible refine (HC.out).mono ?_); rintro e w2 ⟨⟨i, rfl, hi⟩, hb⟩
  have HB := hid hb
  have HI := hid (show has ss x y = decide (0 ≤ i) from by
    rw [Bool.eq_iff_iff, decide_eq_true_eq]; exact hi.symm)
  clear hb hi
  go_wp2_with fail
  go_ret
  exact ⟨congrArg (fun z => Ending.returned (Value.bool z)) HI.out.symm, HB.out⟩

set_option maxHeartbeats 1000000 in
theorem has_ok (A : Option Addr) (ss : List Rn) (n c : Nat) (x y : Int) (w : World) (hn : n = ss.length) (hl : n ≤ maxLen) (hs : Runs w A ss) (hc : chk ss = 0) :
    Calls Try.prog 38 #[.slice A n c, .int .i64 x, .int .i64 y] w fun e w' => e = .returned (.tuple #[.bool (has ss x y), .int .i64 0]) ∧ Below w.heap.size w w' := by
  have HS := hid hs
  have HN := hid hn
  have HC := hid hc
  clear hs hn hc
  obtain ⟨W2, hW2⟩ : ∃ W2, W2 = (w.alloc (.cells #[.int .i64 x] 3)).alloc (.cells #[.int .i64 y] 3) := ⟨_, rfl⟩
  have HV0 := hid (show Var W2 w.heap.size #[.int .i64 x] 3 by rw [hW2]; exact (Var.new _ _ _ _ rfl).alloc _)
  have HV1 := hid (show Var W2 (w.heap.size + 1) #[.int .i64 y] 3 by rw [hW2]; exact Var.new _ _ _ _ (by simp))
  have HB0 := hid (show Below w.heap.size w W2 by rw [hW2]; exact below_alloc (below_alloc (Below.refl _ w) _) _)
  go_enter Try.func38, Try.ntmps38
  go_upto_region 1 with fail
  rw [← hW2]
  clear hW2
  go_wp2_with fail
  (with_reducible refine (check_any A ss n c _ HN.out hl (HS.out.next HB0.out)).mono ?_); rintro e w1 ⟨rfl, hb⟩
  have HB1 := hid (below_next HB0.out hb)
  have HW0 := hid (HV0.out.next hb)
  have HW1 := hid (HV1.out.next hb)
  clear hb HV0 HV1 HB0
  rw [HC.out]
  go_wp2_with fail
  (with_reducible refine (cont_any A ss n c (w.heap.size + 1) w.heap.size x y _ HN.out hl (HS.out.next HB1.out) ((HW1.out.cell 0).trans rfl) ((HW0.out.cell 0).trans rfl) HW1.out.lt HW0.out.lt).mono ?_); rintro e w2 ⟨rfl, hb⟩
  have HB2 := hid (below_next HB1.out hb)
  clear hb
  go_wp2_with fail
  go_ret2
  exact ⟨rfl, HB2.out⟩

set_option maxHeartbeats 1000000 in
theorem has_bad (A : Option Addr) (ss : List Rn) (n c : Nat) (x y : Int) (w : World) (hn : n = ss.length) (hl : n ≤ maxLen) (hs : Runs w A ss) (hc : chk ss ≠ 0) :
    Calls Try.prog 38 #[.slice A n c, .int .i64 x, .int .i64 y] w fun e w' => e = .returned (.tuple #[.bool false, .int .i64 (chk ss)]) ∧ Below w.heap.size w w' := by
  have HS := hid hs
  have HN := hid hn
  have HC := hid hc
  clear hs hn hc
  obtain ⟨W2, hW2⟩ : ∃ W2, W2 = (w.alloc (.cells #[.int .i64 x] 3)).alloc (.cells #[.int .i64 y] 3) := ⟨_, rfl⟩
  have HV0 := hid (show Var W2 w.heap.size #[.int .i64 x] 3 by rw [hW2]; exact (Var.new _ _ _ _ rfl).alloc _)
  have HV1 := hid (show Var W2 (w.heap.size + 1) #[.int .i64 y] 3 by rw [hW2]; exact Var.new _ _ _ _ (by simp))
  have HB0 := hid (show Below w.heap.size w W2 by rw [hW2]; exact below_alloc (below_alloc (Below.refl _ w) _) _)
  go_enter Try.func38, Try.ntmps38
  go_upto_region 1 with fail
  rw [← hW2]
  clear hW2
  go_wp2_with fail
  (with_reducible refine (check_any A ss n c _ HN.out hl (HS.out.next HB0.out)).mono ?_); rintro e w1 ⟨rfl, hb⟩
  have HB1 := hid (below_next HB0.out hb)
  have HW0 := hid (HV0.out.next hb)
  have HW1 := hid (HV1.out.next hb)
  clear hb HV0 HV1 HB0
  have hc' : (chk ss != 0) = true := by simpa using HC.out
  go_wp2_with fail
  go_ret2
  exact ⟨rfl, HB1.out⟩

end Go.Proofs.Ytjehmjcalapaiaa
