/- Union, Intersect, Minus, Xor of package region. -/
import Derived.Test.YtepnpnidbpaimaaCmb
namespace Go.Proofs.Ytepnpnidbpaimaa
open Go Go.RowKit
set_option linter.unusedVariables false

theorem combine_any (K : FuncId) (keep : Bool → Bool → Bool) (hK : Enters Try.prog K) (hk : ∀ a b w, Calls Try.prog K #[.bool a, .bool b] w fun e w' => e = .returned (.bool (keep a b)) ∧ w = w') (h0 : keep false false = false)
    (A A' : Option Addr) (xs ys : List Rn) (n c m c' : Nat) (w : World) (hn : n = xs.length) (hm : m = ys.length) (hnl : n ≤ maxLen) (hml : m ≤ maxLen) (hx : Runs w A xs) (hy : Runs w A' ys) :
    Calls Try.prog 48 #[.slice A n c, .slice A' m c', .func (.func K) #[] #[]] w (GivesOp keep xs ys w) := by
  by_cases h1 : chk xs = 0
  · by_cases h2 : chk ys = 0
    · exact combine_good K keep hK hk h0 A A' xs ys n c m c' w hn hm hx hy h1 h2
    · exact combine_bad2 K keep A A' xs ys n c m c' w hn hm hnl hml hx hy h1 h2
  · exact combine_bad1 K keep A A' xs ys n c m c' w hn hnl hx h1

theorem unionK (a b : Bool) (w : World) : Calls Try.prog 49 #[.bool a, .bool b] w fun e w' => e = .returned (.bool (a || b)) ∧ w = w' := by
  cases a <;> cases b
  all_goals
    go_enter Try.func49, Try.ntmps49
    go_wp2
    go_ret
    exact ⟨rfl, rfl⟩
theorem enters_unionK : Enters Try.prog 49 := enters_of Try.func49 (by kernel_rfl) rfl
theorem union_any (A A' : Option Addr) (xs ys : List Rn) (n c m c' : Nat) (w : World) (hn : n = xs.length) (hm : m = ys.length) (hnl : n ≤ maxLen) (hml : m ≤ maxLen) (hx : Runs w A xs) (hy : Runs w A' ys) :
    Calls Try.prog 19 #[.slice A n c, .slice A' m c'] w (GivesOp (fun a b => a || b) xs ys w) := by
  have HX := hid hx
  have HY := hid hy
  have HN := hid hn
  have HM := hid hm
  clear hx hy hn hm
  go_enter Try.func19, Try.ntmps19
  go_wp2_with fail
  (with_reducible refine (combine_any _ (fun a b => a || b) enters_unionK unionK rfl A A' xs ys n c m c' _ HN.out HM.out hnl hml HX.out HY.out).mono ?_); rintro e w1 ⟨v, res, rfl, ho, hb, h1, h2⟩
  have HO := hid ho
  have HB := hid hb
  have H1 := hid h1
  have H2 := hid h2
  clear ho hb h1 h2
  go_wp2_with fail
  go_ret2
  exact ⟨v, res, rfl, HO.out, HB.out, H1.out, H2.out⟩

theorem interK (a b : Bool) (w : World) : Calls Try.prog 50 #[.bool a, .bool b] w fun e w' => e = .returned (.bool (a && b)) ∧ w = w' := by
  cases a <;> cases b
  all_goals
    go_enter Try.func50, Try.ntmps50
    go_wp2
    go_ret
    exact ⟨rfl, rfl⟩
theorem enters_interK : Enters Try.prog 50 := enters_of Try.func50 (by kernel_rfl) rfl
theorem inter_any (A A' : Option Addr) (xs ys : List Rn) (n c m c' : Nat) (w : World) (hn : n = xs.length) (hm : m = ys.length) (hnl : n ≤ maxLen) (hml : m ≤ maxLen) (hx : Runs w A xs) (hy : Runs w A' ys) :
    Calls Try.prog 20 #[.slice A n c, .slice A' m c'] w (GivesOp (fun a b => a && b) xs ys w) := by
  have HX := hid hx
  have HY := hid hy
  have HN := hid hn
  have HM := hid hm
  clear hx hy hn hm
  go_enter Try.func20, Try.ntmps20
  go_wp2_with fail
  (with_reducible refine (combine_any _ (fun a b => a && b) enters_interK interK rfl A A' xs ys n c m c' _ HN.out HM.out hnl hml HX.out HY.out).mono ?_); rintro e w1 ⟨v, res, rfl, ho, hb, h1, h2⟩
  have HO := hid ho
  have HB := hid hb
  have H1 := hid h1
  have H2 := hid h2
  clear ho hb h1 h2
  go_wp2_with fail
  go_ret2
  exact ⟨v, res, rfl, HO.out, HB.out, H1.out, H2.out⟩

theorem minusK (a b : Bool) (w : World) : Calls Try.prog 51 #[.bool a, .bool b] w fun e w' => e = .returned (.bool (a && !b)) ∧ w = w' := by
  cases a <;> cases b
  all_goals
    go_enter Try.func51, Try.ntmps51
    go_wp2
    go_ret
    exact ⟨rfl, rfl⟩
theorem enters_minusK : Enters Try.prog 51 := enters_of Try.func51 (by kernel_rfl) rfl
theorem minus_any (A A' : Option Addr) (xs ys : List Rn) (n c m c' : Nat) (w : World) (hn : n = xs.length) (hm : m = ys.length) (hnl : n ≤ maxLen) (hml : m ≤ maxLen) (hx : Runs w A xs) (hy : Runs w A' ys) :
    Calls Try.prog 21 #[.slice A n c, .slice A' m c'] w (GivesOp (fun a b => a && !b) xs ys w) := by
  have HX := hid hx
  have HY := hid hy
  have HN := hid hn
  have HM := hid hm
  clear hx hy hn hm
  go_enter Try.func21, Try.ntmps21
  go_wp2_with fail
  (with_reducible refine (combine_any _ (fun a b => a && !b) enters_minusK minusK rfl A A' xs ys n c m c' _ HN.out HM.out hnl hml HX.out HY.out).mono ?_); rintro e w1 ⟨v, res, rfl, ho, hb, h1, h2⟩
  have HO := hid ho
  have HB := hid hb
  have H1 := hid h1
  have H2 := hid h2
  clear ho hb h1 h2
  go_wp2_with fail
  go_ret2
  exact ⟨v, res, rfl, HO.out, HB.out, H1.out, H2.out⟩

theorem xorK (a b : Bool) (w : World) : Calls Try.prog 52 #[.bool a, .bool b] w fun e w' => e = .returned (.bool (a != b)) ∧ w = w' := by
  cases a <;> cases b
  all_goals
    go_enter Try.func52, Try.ntmps52
    go_wp2
    go_ret
    exact ⟨rfl, rfl⟩
theorem enters_xorK : Enters Try.prog 52 := enters_of Try.func52 (by kernel_rfl) rfl
theorem xor_any (A A' : Option Addr) (xs ys : List Rn) (n c m c' : Nat) (w : World) (hn : n = xs.length) (hm : m = ys.length) (hnl : n ≤ maxLen) (hml : m ≤ maxLen) (hx : Runs w A xs) (hy : Runs w A' ys) :
    Calls Try.prog 25 #[.slice A n c, .slice A' m c'] w (GivesOp (fun a b => a != b) xs ys w) := by
  have HX := hid hx
  have HY := hid hy
  have HN := hid hn
  have HM := hid hm
  clear hx hy hn hm
  go_enter Try.func25, Try.ntmps25
  go_wp2_with fail
  (with_reducible refine (combine_any _ (fun a b => a != b) enters_xorK xorK rfl A A' xs ys n c m c' _ HN.out HM.out hnl hml HX.out HY.out).mono ?_); rintro e w1 ⟨v, res, rfl, ho, hb, h1, h2⟩
  have HO := hid ho
  have HB := hid hb
  have H1 := hid h1
  have H2 := hid h2
  clear ho hb h1 h2
  go_wp2_with fail
  go_ret2
  exact ⟨v, res, rfl, HO.out, HB.out, H1.out, H2.out⟩

end Go.Proofs.Ytepnpnidbpaimaa
