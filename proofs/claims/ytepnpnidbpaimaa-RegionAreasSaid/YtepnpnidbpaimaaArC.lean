/- The law's closure that measures an operation's result. -/
import Derived.Test.YtepnpnidbpaimaaArea
import Derived.Test.YtepnpnidbpaimaaUni
namespace Go.Proofs.Ytepnpnidbpaimaa
open Go Go.RowKit
set_option linter.unusedVariables false

def GivesA (keep : Bool → Bool → Bool) (xs ys : List Rn) (w : World) (e : Ending) (w' : World) : Prop := ∃ res, e = .returned (.int .i64 (areaL res)) ∧ IsOp keep xs ys res ∧ Below w.heap.size w w'

set_option maxHeartbeats 1000000 in
theorem areaf_union (b1 b2 : Nat) (A A' : Option Addr) (l c l' c' : Nat) (xs ys : List Rn) (w : World) (h1 : w.cell? ⟨b1, 0, none⟩ = some (.slice A l c)) (h2 : w.cell? ⟨b2, 0, none⟩ = some (.slice A' l' c'))
    (hl : l = xs.length) (hl' : l' = ys.length) (hlb : l ≤ 1000000000) (hlb' : l' ≤ 1000000000) (hx : Runs w A xs) (hy : Runs w A' ys) (hc : chk xs = 0) (hc' : chk ys = 0) :
    Calls Try.prog 23 #[.func (.func 19) #[] #[], .pointer (some ⟨b1, 0, none⟩), .pointer (some ⟨b2, 0, none⟩)] w (GivesA (fun a b => a || b) xs ys w) := by
  have HL := hid hl
  have HL' := hid hl'
  have HX := hid hx
  have HY := hid hy
  have HC := hid hc
  have HC' := hid hc'
  clear hl hl' hx hy hc hc'
  go_enter Try.func23, Try.ntmps23
  go_wp2_with fail
  (with_reducible refine (union_any A A' xs ys l c l' c' _ HL.out HL'.out (by unfold maxLen; omega) (by unfold maxLen; omega) HX.out HY.out).mono ?_); rintro e w1 hg
  obtain ⟨A3, c3, res, rfl, hr, hb, hop, hl3⟩ := hg.valid HC.out HC'.out
  obtain ⟨l3, hL3⟩ : ∃ l3, l3 = res.length := ⟨_, rfl⟩
  rw [← hL3]
  have HL3 := hid hL3
  have HR := hid hr
  have HO := hid hop
  have HB := hid hb
  clear hg hr hb hop hl3 hL3 h1 h2
  go_wp2_with fail
  (with_reducible refine (area_any A3 res l3 c3 _ HL3.out HR.out HO.out.v).mono ?_); rintro e w2 ⟨rfl, hb2⟩
  have HB2 := hid (below_next HB.out hb2)
  clear hb2
  go_wp2_with fail
  go_ret
  exact ⟨res, rfl, HO.out, HB2.out⟩

set_option maxHeartbeats 1000000 in
theorem areaf_inter (b1 b2 : Nat) (A A' : Option Addr) (l c l' c' : Nat) (xs ys : List Rn) (w : World) (h1 : w.cell? ⟨b1, 0, none⟩ = some (.slice A l c)) (h2 : w.cell? ⟨b2, 0, none⟩ = some (.slice A' l' c'))
    (hl : l = xs.length) (hl' : l' = ys.length) (hlb : l ≤ 1000000000) (hlb' : l' ≤ 1000000000) (hx : Runs w A xs) (hy : Runs w A' ys) (hc : chk xs = 0) (hc' : chk ys = 0) :
    Calls Try.prog 23 #[.func (.func 20) #[] #[], .pointer (some ⟨b1, 0, none⟩), .pointer (some ⟨b2, 0, none⟩)] w (GivesA (fun a b => a && b) xs ys w) := by
  have HL := hid hl
  have HL' := hid hl'
  have HX := hid hx
  have HY := hid hy
  have HC := hid hc
  have HC' := hid hc'
  clear hl hl' hx hy hc hc'
  go_enter Try.func23, Try.ntmps23
  go_wp2_with fail
  (with_reducible refine (inter_any A A' xs ys l c l' c' _ HL.out HL'.out (by unfold maxLen; omega) (by unfold maxLen; omega) HX.out HY.out).mono ?_); rintro e w1 hg
  obtain ⟨A3, c3, res, rfl, hr, hb, hop, hl3⟩ := hg.valid HC.out HC'.out
  obtain ⟨l3, hL3⟩ : ∃ l3, l3 = res.length := ⟨_, rfl⟩
  rw [← hL3]
  have HL3 := hid hL3
  have HR := hid hr
  have HO := hid hop
  have HB := hid hb
  clear hg hr hb hop hl3 hL3 h1 h2
  go_wp2_with fail
  (with_reducible refine (area_any A3 res l3 c3 _ HL3.out HR.out HO.out.v).mono ?_); rintro e w2 ⟨rfl, hb2⟩
  have HB2 := hid (below_next HB.out hb2)
  clear hb2
  go_wp2_with fail
  go_ret
  exact ⟨res, rfl, HO.out, HB2.out⟩

set_option maxHeartbeats 1000000 in
theorem areaf_minus (b1 b2 : Nat) (A A' : Option Addr) (l c l' c' : Nat) (xs ys : List Rn) (w : World) (h1 : w.cell? ⟨b1, 0, none⟩ = some (.slice A l c)) (h2 : w.cell? ⟨b2, 0, none⟩ = some (.slice A' l' c'))
    (hl : l = xs.length) (hl' : l' = ys.length) (hlb : l ≤ 1000000000) (hlb' : l' ≤ 1000000000) (hx : Runs w A xs) (hy : Runs w A' ys) (hc : chk xs = 0) (hc' : chk ys = 0) :
    Calls Try.prog 23 #[.func (.func 21) #[] #[], .pointer (some ⟨b1, 0, none⟩), .pointer (some ⟨b2, 0, none⟩)] w (GivesA (fun a b => a && !b) xs ys w) := by
  have HL := hid hl
  have HL' := hid hl'
  have HX := hid hx
  have HY := hid hy
  have HC := hid hc
  have HC' := hid hc'
  clear hl hl' hx hy hc hc'
  go_enter Try.func23, Try.ntmps23
  go_wp2_with fail
  (with_reducible refine (minus_any A A' xs ys l c l' c' _ HL.out HL'.out (by unfold maxLen; omega) (by unfold maxLen; omega) HX.out HY.out).mono ?_); rintro e w1 hg
  obtain ⟨A3, c3, res, rfl, hr, hb, hop, hl3⟩ := hg.valid HC.out HC'.out
  obtain ⟨l3, hL3⟩ : ∃ l3, l3 = res.length := ⟨_, rfl⟩
  rw [← hL3]
  have HL3 := hid hL3
  have HR := hid hr
  have HO := hid hop
  have HB := hid hb
  clear hg hr hb hop hl3 hL3 h1 h2
  go_wp2_with fail
  (with_reducible refine (area_any A3 res l3 c3 _ HL3.out HR.out HO.out.v).mono ?_); rintro e w2 ⟨rfl, hb2⟩
  have HB2 := hid (below_next HB.out hb2)
  clear hb2
  go_wp2_with fail
  go_ret
  exact ⟨res, rfl, HO.out, HB2.out⟩

set_option maxHeartbeats 1000000 in
theorem areaf_xor (b1 b2 : Nat) (A A' : Option Addr) (l c l' c' : Nat) (xs ys : List Rn) (w : World) (h1 : w.cell? ⟨b1, 0, none⟩ = some (.slice A l c)) (h2 : w.cell? ⟨b2, 0, none⟩ = some (.slice A' l' c'))
    (hl : l = xs.length) (hl' : l' = ys.length) (hlb : l ≤ 1000000000) (hlb' : l' ≤ 1000000000) (hx : Runs w A xs) (hy : Runs w A' ys) (hc : chk xs = 0) (hc' : chk ys = 0) :
    Calls Try.prog 23 #[.func (.func 25) #[] #[], .pointer (some ⟨b1, 0, none⟩), .pointer (some ⟨b2, 0, none⟩)] w (GivesA (fun a b => a != b) xs ys w) := by
  have HL := hid hl
  have HL' := hid hl'
  have HX := hid hx
  have HY := hid hy
  have HC := hid hc
  have HC' := hid hc'
  clear hl hl' hx hy hc hc'
  go_enter Try.func23, Try.ntmps23
  go_wp2_with fail
  (with_reducible refine (xor_any A A' xs ys l c l' c' _ HL.out HL'.out (by unfold maxLen; omega) (by unfold maxLen; omega) HX.out HY.out).mono ?_); rintro e w1 hg
  obtain ⟨A3, c3, res, rfl, hr, hb, hop, hl3⟩ := hg.valid HC.out HC'.out
  obtain ⟨l3, hL3⟩ : ∃ l3, l3 = res.length := ⟨_, rfl⟩
  rw [← hL3]
  have HL3 := hid hL3
  have HR := hid hr
  have HO := hid hop
  have HB := hid hb
  clear hg hr hb hop hl3 hL3 h1 h2
  go_wp2_with fail
  (with_reducible refine (area_any A3 res l3 c3 _ HL3.out HR.out HO.out.v).mono ?_); rintro e w2 ⟨rfl, hb2⟩
  have HB2 := hid (below_next HB.out hb2)
  clear hb2
  go_wp2_with fail
  go_ret
  exact ⟨res, rfl, HO.out, HB2.out⟩

end Go.Proofs.Ytepnpnidbpaimaa
