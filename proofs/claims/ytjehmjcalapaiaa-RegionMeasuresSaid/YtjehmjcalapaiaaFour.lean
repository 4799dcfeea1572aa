/- Union, Intersect, Minus, Xor of package region. -/
import Derived.Test.YtjehmjcalapaiaaCmb
namespace Go.Proofs.Ytjehmjcalapaiaa
open Go Go.RowKit
set_option linter.unusedVariables false

theorem combine_any (K : FuncId) (keep : Bool → Bool → Bool) (hK : Enters Try.prog K) (hk : ∀ a b w, Calls Try.prog K #[.bool a, .bool b] w fun e w' => e = .returned (.bool (keep a b)) ∧ w = w') (h0 : keep false false = false)
    (A A' : Option Addr) (xs ys : List Rn) (n c m c' : Nat) (w : World) (hn : n = xs.length) (hm : m = ys.length) (hnl : n ≤ maxLen) (hml : m ≤ maxLen) (hx : Runs w A xs) (hy : Runs w A' ys) :
    Calls Try.prog 58 #[.slice A n c, .slice A' m c', .func (.func K) #[] #[]] w (GivesOp keep xs ys w) := by
  by_cases h1 : chk xs = 0
  · by_cases h2 : chk ys = 0
    · exact combine_good K keep hK hk h0 A A' xs ys n c m c' w hn hm hx hy h1 h2
    · exact combine_bad2 K keep A A' xs ys n c m c' w hn hm hnl hml hx hy h1 h2
  · exact combine_bad1 K keep A A' xs ys n c m c' w hn hnl hx h1

theorem unionK (a b : Bool) (w : World) : Calls Try.prog 104 #[.bool a, .bool b] w fun e w' => e = .returned (.bool (a || b)) ∧ w = w' := by
  cases a <;> cases b
  all_goals
    go_enter Try.func104, Try.ntmps104
    go_wp2
    go_ret
    exact ⟨rfl, rfl⟩
theorem enters_unionK : Enters Try.prog 104 := enters_of Try.func104 (by kernel_rfl) rfl
theorem union_any (A A' : Option Addr) (xs ys : List Rn) (n c m c' : Nat) (w : World) (hn : n = xs.length) (hm : m = ys.length) (hnl : n ≤ maxLen) (hml : m ≤ maxLen) (hx : Runs w A xs) (hy : Runs w A' ys) :
    Calls Try.prog 73 #[.slice A n c, .slice A' m c'] w (GivesOp (fun a b => a || b) xs ys w) := by
  have HX := hid hx
  have HY := hid hy
  have HN := hid hn
  have HM := hid hm
  clear hx hy hn hm
  go_enter Try.func73, Try.ntmps73
  go_wp2_with fail
  (with_reducible refine (combine_any _ (fun a b => a || b) enters_unionK unionK rfl A A' xs ys n c m c' _ HN.out HM.out hnl hml HX.out HY.out).mono ?_); rintro e w1 ⟨v, res, rfl, ho, hb, h1, h2⟩
  have HO := hid ho
  have HB := hid hb
  have H1 := hid h1
  have H2 := hid h2
  clear ho hb h1 h2
  go_wp2_with fail
  go_ret2
  exact ⟨v, res, rfl, HO.out, HB.out, H1.out, H2.out⟩

theorem xorK (a b : Bool) (w : World) : Calls Try.prog 59 #[.bool a, .bool b] w fun e w' => e = .returned (.bool (a != b)) ∧ w = w' := by
  cases a <;> cases b
  all_goals
    go_enter Try.func59, Try.ntmps59
    go_wp2
    go_ret
    exact ⟨rfl, rfl⟩
theorem enters_xorK : Enters Try.prog 59 := enters_of Try.func59 (by kernel_rfl) rfl
theorem xor_any (A A' : Option Addr) (xs ys : List Rn) (n c m c' : Nat) (w : World) (hn : n = xs.length) (hm : m = ys.length) (hnl : n ≤ maxLen) (hml : m ≤ maxLen) (hx : Runs w A xs) (hy : Runs w A' ys) :
    Calls Try.prog 19 #[.slice A n c, .slice A' m c'] w (GivesOp (fun a b => a != b) xs ys w) := by
  have HX := hid hx
  have HY := hid hy
  have HN := hid hn
  have HM := hid hm
  clear hx hy hn hm
  go_enter Try.func19, Try.ntmps19
  go_wp2_with fail
  (with_reducible refine (combine_any _ (fun a b => a != b) enters_xorK xorK rfl A A' xs ys n c m c' _ HN.out HM.out hnl hml HX.out HY.out).mono ?_); rintro e w1 ⟨v, res, rfl, ho, hb, h1, h2⟩
  have HO := hid ho
  have HB := hid hb
  have H1 := hid h1
  have H2 := hid h2
  clear ho hb h1 h2
  go_wp2_with fail
  go_ret2
  exact ⟨v, res, rfl, HO.out, HB.out, H1.out, H2.out⟩

end Go.Proofs.Ytjehmjcalapaiaa
