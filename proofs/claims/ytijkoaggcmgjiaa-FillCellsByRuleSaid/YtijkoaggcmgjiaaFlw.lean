/- The law FillCellsByRule (written by r9_flw.py). -/
import Derived.Test.YtijkoaggcmgjiaaFrd
import Derived.Test.YtijkoaggcmgjiaaFllE
import Derived.Test.YtijkoaggcmgjiaaFllO
import Derived.Test.YtijkoaggcmgjiaaFew
import Derived.Test.YtijkoaggcmgjiaaFla
import Derived.Test.YtijkoaggcmgjiaaSame
namespace Go.Proofs.Ytijkoaggcmgjiaa
open Go Go.RowKit
set_option linter.unusedVariables false
set_option linter.unusedSimpArgs false

theorem edgesL_le {ls : List Ln} {M : Nat} (h : ∀ l ∈ ls, l.ps.length ≤ M) : (edgesL ls).length ≤ ls.length * M := by
  induction ls with
  | nil => simp [edgesL]
  | cons l t ih =>
    have h1 := h l (by simp)
    have h2 := ih fun l' hl' => h l' (List.mem_cons_of_mem _ hl')
    unfold edgesL at *
    rw [List.flatMap_cons, List.length_append, edgs_len, List.length_cons, Nat.succ_mul]
    omega
theorem few_edges (es : List LE) : (edgesL ((fewE es).map LE.ln)).length ≤ 1000000 := by
  have h1 := edgesL_le (ls := (fewE es).map LE.ln) (M := 8) fun l hl => by
    obtain ⟨e, he, rfl⟩ := List.mem_map.1 hl
    obtain ⟨e', he', rfl⟩ := List.mem_map.1 he
    show (e'.ps.take 8).length ≤ 8
    rw [List.length_take]; omega
  have h2 : ((fewE es).map LE.ln).length ≤ 4 := by
    unfold fewE
    rw [List.length_map, List.length_map, List.length_take]; omega
  omega

theorem cells_E (A : Option Addr) (n c : Nat) (es : List LE) (w : World) (hn : n = es.length) (hs : LnsE w A es) (hm : n ≤ maxLen) (h : lchk ((fewE es).map LE.ln) = 0) :
    Calls Try.prog 3 #[.slice A n c, .int .i64 1] w fun e w' => e = .returned (.bool true) ∧ Below w.heap.size w w' := by
  have HS := hid hs
  have HF := fun w1 (h1 : LnsE w1 A es) => hid (few_any A es n c w1 hn hm h1)
  have HE := hid (few_edges es)
  have HLL := hid (show (fewE es).length = ((fewE es).map LE.ln).length by simp)
  have HLM := hid (show (fewE es).length ≤ maxLen by unfold fewE maxLen; rw [List.length_map, List.length_take]; omega)
  clear hs hn hm
  go_enter Try.func3, Try.ntmps3
  go_wp2_with fail
  (with_reducible refine (fills_any _).mono ?_); rintro e w1 ⟨rfl, hb⟩
  have HB1 := hid hb
  clear hb
  go_wp2_with fail
  (with_reducible refine (HF _ (HS.out.next HB1.out)).out.mono ?_); rintro e w2 ⟨⟨A', c', rfl, hL⟩, hb⟩
  have HB2 := hid (below_next HB1.out hb)
  have HL := hid hL.lns
  clear hb hL HF HS
  generalize (fewE es).length = m at HL HLL HLM
  generalize (fewE es).map LE.ln = ls at HL HE HLL h
  go_wp2_with fail
  (with_reducible refine (fill_E A' ls m c' _ HLL.out HLM.out HL.out h HE.out).mono ?_); rintro e w3 ⟨⟨v, rs, rfl, hF, hown⟩, hb⟩
  have HB3 := hid (below_next HB2.out hb)
  have HO3 := hid hown
  have HF := hid hF
  have HL3 := hid (HL.out.next hb)
  clear hb hown hF HL
  go_wp2_with fail
  (with_reducible refine (rlcheck_any A' ls m c' _ HLL.out HLM.out HL3.out).mono ?_); rintro e w4 ⟨rfl, hb⟩
  have HB4 := hid (below_next HB3.out hb)
  have HL4 := hid (HL3.out.next hb)
  have HO4 := hid (HO3.out.next hb)
  have H0 := hid h
  rw [h]
  clear hb h HL3 HO3
  go_wp2_with fail
  (with_reducible refine (filled_any A' ls m c' true _ HLL.out HLM.out HL4.out H0.out HE.out).mono ?_); rintro e w5 ⟨v2, rs2, rfl, hF2, hown2, hb⟩
  have HB5 := hid (below_next HB4.out hb)
  obtain rfl := HF.out.uniq hF2
  obtain ⟨A5, c5, rfl, hr5⟩ := (HO4.out.next hb).is
  obtain ⟨A6, c6, rfl, hr6⟩ := hown2.is
  have hrl := chk_len hF2.1
  have HR5 := hid hr5
  have HR6 := hid hr6
  have HRL := hid (show rs.length ≤ maxLen by unfold maxLen; omega)
  clear hb hown2 hF2 hr5 hr6 hrl HO4
  go_wp2_with fail
  (with_reducible refine (same_eq A5 A6 rs.length c5 c6 rs rs _ rfl rfl HRL.out HR5.out HR6.out).mono ?_); rintro e w6 ⟨rfl, hb⟩
  have HB6 := hid (below_next HB5.out hb)
  clear hb
  rw [show decide (rs = rs) = true by simp]
  go_wp2_with fail
  go_ret
  exact ⟨rfl, HB6.out⟩
theorem cells_O (A : Option Addr) (n c : Nat) (es : List LE) (w : World) (hn : n = es.length) (hs : LnsE w A es) (hm : n ≤ maxLen) (h : lchk ((fewE es).map LE.ln) = 0) :
    Calls Try.prog 3 #[.slice A n c, .int .i64 0] w fun e w' => e = .returned (.bool true) ∧ Below w.heap.size w w' := by
  have HS := hid hs
  have HF := fun w1 (h1 : LnsE w1 A es) => hid (few_any A es n c w1 hn hm h1)
  have HE := hid (few_edges es)
  have HLL := hid (show (fewE es).length = ((fewE es).map LE.ln).length by simp)
  have HLM := hid (show (fewE es).length ≤ maxLen by unfold fewE maxLen; rw [List.length_map, List.length_take]; omega)
  clear hs hn hm
  go_enter Try.func3, Try.ntmps3
  go_wp2_with fail
  (with_reducible refine (fills_any _).mono ?_); rintro e w1 ⟨rfl, hb⟩
  have HB1 := hid hb
  clear hb
  go_wp2_with fail
  (with_reducible refine (HF _ (HS.out.next HB1.out)).out.mono ?_); rintro e w2 ⟨⟨A', c', rfl, hL⟩, hb⟩
  have HB2 := hid (below_next HB1.out hb)
  have HL := hid hL.lns
  clear hb hL HF HS
  generalize (fewE es).length = m at HL HLL HLM
  generalize (fewE es).map LE.ln = ls at HL HE HLL h
  go_wp2_with fail
  (with_reducible refine (fill_O A' ls m c' _ HLL.out HLM.out HL.out h HE.out).mono ?_); rintro e w3 ⟨⟨v, rs, rfl, hF, hown⟩, hb⟩
  have HB3 := hid (below_next HB2.out hb)
  have HO3 := hid hown
  have HF := hid hF
  have HL3 := hid (HL.out.next hb)
  clear hb hown hF HL
  go_wp2_with fail
  (with_reducible refine (rlcheck_any A' ls m c' _ HLL.out HLM.out HL3.out).mono ?_); rintro e w4 ⟨rfl, hb⟩
  have HB4 := hid (below_next HB3.out hb)
  have HL4 := hid (HL3.out.next hb)
  have HO4 := hid (HO3.out.next hb)
  have H0 := hid h
  rw [h]
  clear hb h HL3 HO3
  go_wp2_with fail
  (with_reducible refine (filled_any A' ls m c' false _ HLL.out HLM.out HL4.out H0.out HE.out).mono ?_); rintro e w5 ⟨v2, rs2, rfl, hF2, hown2, hb⟩
  have HB5 := hid (below_next HB4.out hb)
  obtain rfl := HF.out.uniq hF2
  obtain ⟨A5, c5, rfl, hr5⟩ := (HO4.out.next hb).is
  obtain ⟨A6, c6, rfl, hr6⟩ := hown2.is
  have hrl := chk_len hF2.1
  have HR5 := hid hr5
  have HR6 := hid hr6
  have HRL := hid (show rs.length ≤ maxLen by unfold maxLen; omega)
  clear hb hown2 hF2 hr5 hr6 hrl HO4
  go_wp2_with fail
  (with_reducible refine (same_eq A5 A6 rs.length c5 c6 rs rs _ rfl rfl HRL.out HR5.out HR6.out).mono ?_); rintro e w6 ⟨rfl, hb⟩
  have HB6 := hid (below_next HB5.out hb)
  clear hb
  rw [show decide (rs = rs) = true by simp]
  go_wp2_with fail
  go_ret
  exact ⟨rfl, HB6.out⟩
theorem cells_bad (A : Option Addr) (n c : Nat) (es : List LE) (rule : Int) (w : World) (hn : n = es.length) (hs : LnsE w A es) (hm : n ≤ maxLen) (h : lchk ((fewE es).map LE.ln) ≠ 0) :
    Calls Try.prog 3 #[.slice A n c, .int .i64 rule] w fun e w' => e = .returned (.bool true) ∧ Below w.heap.size w w' := by
  have HS := hid hs
  have HF := fun w1 (h1 : LnsE w1 A es) => hid (few_any A es n c w1 hn hm h1)
  have HLL := hid (show (fewE es).length = ((fewE es).map LE.ln).length by simp)
  have HLM := hid (show (fewE es).length ≤ maxLen by unfold fewE maxLen; rw [List.length_map, List.length_take]; omega)
  clear hs hn hm
  go_enter Try.func3, Try.ntmps3
  go_wp2_with fail
  (with_reducible refine (fills_any _).mono ?_); rintro e w1 ⟨rfl, hb⟩
  have HB1 := hid hb
  clear hb
  go_wp2_with fail
  (with_reducible refine (HF _ (HS.out.next HB1.out)).out.mono ?_); rintro e w2 ⟨⟨A', c', rfl, hL⟩, hb⟩
  have HB2 := hid (below_next HB1.out hb)
  have HL := hid hL.lns
  clear hb hL HF HS
  generalize (fewE es).length = m at HL HLL HLM
  generalize (fewE es).map LE.ln = ls at HL HLL h
  have HH := hid h
  have hne : (lchk ls != 0) = true := by simpa using h
  have hne2 : (lchk ls == 0) = false := by simpa using h
  have HFB := fun w1 (h1 : Lns w1 A' ls) => hid (fill_bad A' ls m c' rule w1 HLL.out HLM.out h1 h)
  have HRC := fun w1 (h1 : Lns w1 A' ls) => hid (rlcheck_any A' ls m c' w1 HLL.out HLM.out h1)
  clear h
  generalize lchk ls = Z at HFB HRC hne hne2
  go_wp2_with fail
  (with_reducible refine ((HFB _ HL.out).out).mono ?_); rintro e w3 ⟨rfl, hb⟩
  have HB3 := hid (below_next HB2.out hb)
  have HL3 := hid (HL.out.next hb)
  clear hb
  go_wp2_with fail
  (with_reducible refine ((HRC _ HL3.out).out).mono ?_); rintro e w4 ⟨rfl, hb⟩
  have HB4 := hid (below_next HB3.out hb)
  clear hb
  go_wp2_with fail
  go_ret
  exact ⟨by simp, HB4.out⟩
theorem cells_arg (A : Option Addr) (n c : Nat) (es : List LE) (rule : Int) (w : World) (hn : n = es.length) (hs : LnsE w A es) (hm : n ≤ maxLen) (h : lchk ((fewE es).map LE.ln) = 0) (h0 : rule ≠ 0) (h1 : rule ≠ 1) :
    Calls Try.prog 3 #[.slice A n c, .int .i64 rule] w fun e w' => e = .returned (.bool true) ∧ Below w.heap.size w w' := by
  have HS := hid hs
  have HF := fun w1 (h1 : LnsE w1 A es) => hid (few_any A es n c w1 hn hm h1)
  have HLL := hid (show (fewE es).length = ((fewE es).map LE.ln).length by simp)
  have HLM := hid (show (fewE es).length ≤ maxLen by unfold fewE maxLen; rw [List.length_map, List.length_take]; omega)
  have e0 : (rule != 0) = true := by simpa using h0
  have e1 : (rule != 1) = true := by simpa using h1
  have H01 := hid (show rule ≠ 0 ∧ rule ≠ 1 from ⟨h0, h1⟩)
  clear hs hn hm h0 h1
  go_enter Try.func3, Try.ntmps3
  go_wp2_with fail
  (with_reducible refine (fills_any _).mono ?_); rintro e w1 ⟨rfl, hb⟩
  have HB1 := hid hb
  clear hb
  go_wp2_with fail
  (with_reducible refine (HF _ (HS.out.next HB1.out)).out.mono ?_); rintro e w2 ⟨⟨A', c', rfl, hL⟩, hb⟩
  have HB2 := hid (below_next HB1.out hb)
  have HL := hid hL.lns
  clear hb hL HF HS
  generalize (fewE es).length = m at HL HLL HLM
  generalize (fewE es).map LE.ln = ls at HL HLL h
  have HFB := fun w1 (h1 : Lns w1 A' ls) => hid (fill_arg A' ls m c' rule w1 HLL.out HLM.out h1 h H01.out.1 H01.out.2)
  have HRC := fun w1 (h1 : Lns w1 A' ls) => hid (rlcheck_any A' ls m c' w1 HLL.out HLM.out h1)
  rw [h] at HRC
  clear h
  go_wp2_with fail
  (with_reducible refine ((HFB _ HL.out).out).mono ?_); rintro e w3 ⟨rfl, hb⟩
  have HB3 := hid (below_next HB2.out hb)
  have HL3 := hid (HL.out.next hb)
  clear hb
  go_wp2_with fail
  (with_reducible refine ((HRC _ HL3.out).out).mono ?_); rintro e w4 ⟨rfl, hb⟩
  have HB4 := hid (below_next HB3.out hb)
  clear hb
  go_wp2_with fail
  go_ret
  exact ⟨rfl, HB4.out⟩
theorem cells_law (A : Option Addr) (n c : Nat) (ls : List Ln) (rule : Int) (w : World) (hn : n = ls.length) (hs : Lns w A ls) (hm : n ≤ maxLen) :
    Calls Try.prog 3 #[.slice A n c, .int .i64 rule] w fun e w' => e = .returned (.bool true) ∧ Below w.heap.size w w' := by
  obtain ⟨es, rfl, hE⟩ := hs.ext
  have hn' : n = es.length := by simpa using hn
  by_cases h : lchk ((fewE es).map LE.ln) = 0
  · by_cases h0 : rule = 0
    · subst h0; exact cells_O A n c es w hn' hE hm h
    · by_cases h1 : rule = 1
      · subst h1; exact cells_E A n c es w hn' hE hm h
      · exact cells_arg A n c es rule w hn' hE hm h h0 h1
  · exact cells_bad A n c es rule w hn' hE hm h
end Go.Proofs.Ytijkoaggcmgjiaa
