/- Whether two rows of lines are the same. -/
import Derived.Test.YtcdedefhofkbhaaRFn
namespace Go.Proofs.Ytcdedefhofkbhaa
open Go Go.RowKit
set_option linter.unusedVariables false
set_option linter.unusedSimpArgs false

section
variable {ρ : Operand → Value} {dst : Option Tmp} {ty : TypeId} {pos : String} {af : Array Edge} {x y : Operand} {w : World} {gd : Option (Nat × Bool)}
theorem run_loadB {a : Addr} {b : Bool} (hx : ρ x = .pointer (some a)) (hc : w.cell? a = some (.bool b)) :
    (execOp ρ { dst := dst, op := .load 4 x, type := ty, pos := pos, after := af, guard := gd }).run Try.prog w = .ok (.value (.bool b)) w := by
  go_simp
theorem run_neB {b : Bool} (hx : ρ x = .bool b) (hy : ρ y = .bool b) :
    (execOp ρ { dst := dst, op := .binOp .neq 4 x y 4, type := ty, pos := pos, after := af, guard := gd }).run Try.prog w = .ok (.value (.bool false)) w := by
  cases b <;> go_simp
end
theorem enters_samep : Enters Try.prog 24 := enters_of Try.func24 (by kernel_rfl) rfl
/-- The cells of lines in a block, and their points. -/
def RowL (w : World) (g : Nat) (es : List LE) : Prop := ∀ i e, es[i]? = some e → w.cell? ⟨g, i * 2, none⟩ = some e.1 ∧ w.cell? ⟨g, i * 2 + 1, none⟩ = some (.bool e.2.cl) ∧
  ∃ gp cp, e.1 = .slice (some ⟨gp, 0, none⟩) e.2.ps.length cp ∧ gp < w.heap.size ∧ Row2 w gp e.2.ps
theorem RowL.next {w w' : World} {g : Nat} {es : List LE} (h : RowL w g es) (hg : g < w.heap.size) (hb : Below w.heap.size w w') : RowL w' g es := fun i e he => by
  obtain ⟨h1, h2, gp, cp, h3, h4, h5⟩ := h i e he
  exact ⟨(hb.cell (p := ⟨g, i * 2, none⟩) hg).trans h1, (hb.cell (p := ⟨g, i * 2 + 1, none⟩) hg).trans h2, gp, cp, h3, Nat.lt_of_lt_of_le h4 hb.size, h5.next h4 hb⟩
/-- A slice that reads as lines, nil let in. -/
def Lines (w : World) (v : Value) (es : List LE) : Prop := ∃ A c, v = .slice A es.length c ∧ (0 < es.length → ∃ g, A = some ⟨g, 0, none⟩ ∧ g < w.heap.size ∧ RowL w g es)
theorem OwnL.lines {w : World} {B : Nat} {v : Value} {es : List LE} (h : OwnL w B v es) : Lines w v es := by
  rcases h.r.2 with ⟨h1, h2⟩ | ⟨g, cap, cur, hv, hb, hg, k1, k2, k3, k4⟩
  · exact ⟨none, 0, by rw [h1, h2], fun k => by omega⟩
  · refine ⟨some ⟨g, 0, none⟩, cap, hv, fun k => ⟨g, rfl, (Array.getElem?_eq_some_iff.1 hg).1, fun i e he => ?_⟩⟩
    have hcell : ∀ j u, (lfl es)[j]? = some u → w.cell? ⟨g, j, none⟩ = some u := fun j u hu => by
      rw [← k4, List.getElem?_take] at hu
      split at hu
      · simp only [World.cell?, hg]; simpa using hu
      · cases hu
    have hp := h.p e (List.mem_of_getElem? he)
    obtain ⟨gp, cp, q1, -, q3, q4⟩ := own_row hp.1 hp.2
    exact ⟨hcell _ _ (lfl_get es i e he).1, hcell _ _ (lfl_get es i e he).2, gp, cp, q1, q3, q4⟩
theorem Lines.next {w w' : World} {v : Value} {es : List LE} (h : Lines w v es) (hb : Below w.heap.size w w') : Lines w' v es := by
  obtain ⟨A, c, h1, h2⟩ := h
  refine ⟨A, c, h1, fun k => ?_⟩
  obtain ⟨g, h3, h4, h5⟩ := h2 k
  exact ⟨g, h3, Nat.lt_of_lt_of_le h4 hb.size, h5.next h4 hb⟩

set_option maxHeartbeats 3200000 in
set_option maxRecDepth 100000 in
theorem samel_some (g g' n c c' : Nat) (es es' : List LE) (w : World) (hn : n = es.length) (he : es.map (·.2) = es'.map (·.2)) (hm : n ≤ 100000) (hl : ∀ e ∈ es, e.2.ps.length ≤ 1000000) (hr : RowL w g es) (hr' : RowL w g' es') (hg : g < w.heap.size) (hg' : g' < w.heap.size) :
    Calls Try.prog 27 #[.slice (some ⟨g, 0, none⟩) n c, .slice (some ⟨g', 0, none⟩) n c'] w fun e w' => e = .returned (.bool true) ∧ Below w.heap.size w w' := by
  have HR := hid hr
  have HR' := hid hr'
  have HN := hid hn
  have HE := hid he
  have HL := hid hl
  clear hr hr' hn he hl
  have hg0 := hg
  have hg0' := hg'
  go_enter Try.func27, Try.ntmps27
  go_wp2_with fail
  go_loopw [13] (fun s13 wr => ∃ k : Nat, k ≤ n ∧ s13 = .int .i64 k ∧ Hid (Below w.heap.size w wr)) (fun s13 _ => n - (intOf s13).toNat)
  case atStart => exact ⟨0, Nat.zero_le _, rfl, hid (Below.refl _ w)⟩
  case round =>
    obtain ⟨k, hk, rfl, HB⟩ := hrel
    by_cases hlt : k < n
    · have hkl : k < es.length := by rw [← HN.out]; exact hlt
      have hkl' : k < es'.length := by have := congrArg List.length HE.out; simp at this; omega
      have hq := List.getElem?_eq_getElem hkl
      have hq' := List.getElem?_eq_getElem hkl'
      have hsame : es[k].2 = es'[k].2 := by
        have := congrArg (fun l => l[k]?) HE.out
        simpa [hq, hq'] using this
      obtain ⟨hc0, hc1, gp, cp, hv, hgp, hrp⟩ := (HR.out.next hg0 HB.out) k _ hq
      obtain ⟨hd0, hd1, gq, cq, hv', hgq, hrq⟩ := (HR'.out.next hg0' HB.out) k _ hq'
      have hm1 := HL.out _ (List.getElem_mem hkl)
      rw [hv] at hc0
      rw [hv'] at hd0
      rw [← hsame] at hd0 hd1 hrq
      obtain ⟨m, hm⟩ : ∃ m, m = (es[k]).2.ps.length := ⟨_, rfl⟩
      rw [← hm] at hc0 hd0 hm1
      have HRP := hid hrp
      have HRQ := hid hrq
      clear hv hv' hsame hrp hrq hq hq'
      generalize (es[k]).2.cl = b at hc1 hd1
      generalize (es[k]).2.ps = ps at hm HRP HRQ
      have hg : g < wr.heap.size := Nat.lt_of_lt_of_le hg0 HB.out.size
      have hg' : g' < wr.heap.size := Nat.lt_of_lt_of_le hg0' HB.out.size
      go_upto_region 6 with fail
      rename ∀ (a : Act) (w : World), Code.wp _ _ _ a w → (_ : Act → World → Prop) a w => hKn
      refine wp_region_fan 24 1000 (Over wr) (by kernel_rfl) (by kernel_rfl) (Over.start wr) ?_
      simp only [List.take_succ_cons, List.take_zero, List.drop_succ_cons, List.drop_zero]
      have L1 := fun b w1 (h : Over wr b w1) => (⟨(Below.cell (p := ⟨g, k * 2, none⟩) h hg).trans hc0, (Below.cell (p := ⟨g, k * 2 + 1, none⟩) h hg).trans hc1⟩ : _ ∧ _)
      have L2 := fun b w1 (h : Over wr b w1) => (⟨(Below.cell (p := ⟨g', k * 2, none⟩) h hg').trans hd0, (Below.cell (p := ⟨g', k * 2 + 1, none⟩) h hg').trans hd1⟩ : _ ∧ _)
      refine WalksE.sound _ _ _ _ ?_ ((((((((((((((Is.start _ (n := 42) rfl).pin 0 (v := .slice (some ⟨g, 0, none⟩) n c) rfl).pin 1 (v := .slice (some ⟨g', 0, none⟩) n c') rfl).pin 2 (v := undef) rfl).pin 3 (v := undef) rfl).pin 5 (v := .int .i64 (k)) rfl).pin 6 (v := .slice (some ⟨g, 0, none⟩) n c) rfl).pin 7 (v := .int .i64 (n)) rfl).pin 8 (v := .slice (some ⟨g', 0, none⟩) n c') rfl).pin 9 (v := .int .i64 (n)) rfl).pin 10 (v := .bool false) rfl).pin 11 (v := .slice (some ⟨g, 0, none⟩) n c) rfl).pin 12 (v := .int .i64 (n)) rfl).pin 13 (v := .int .i64 (k)) rfl)
      generalize (fun i => Array.getD _ i undef) = gfn
      refine walks_with fun KQ hKQ => ?_
      (refine walks_one fun K hK => ?_); refine st_pure rfl rfl (fun _ => rfl) ?_; refine hK _ ?_; clear hK K
      (refine walks_one fun K hK => ?_); refine st_pure rfl rfl (fun _ => rfl) ?_; refine hK _ ?_; clear hK K
      (refine walks_one fun K hK => ?_); refine st_pure (v := .pointer (some ⟨g, k * 2, none⟩)) rfl rfl (fun _ => (run_indexLn (a := ⟨g, 0, none⟩) (j := k) rfl rfl (by omega) (by omega)).trans (by rw [addr0, Int.toNat_natCast])) ?_; refine hK _ ?_; clear hK K
      (refine walks_one fun K hK => ?_); refine st_pure rfl rfl (fun _ => run_fld_line1 rfl) ?_; refine hK _ ?_; clear hK K
      (refine walks_one fun K hK => ?_); refine st_read rfl rfl (fun _ _ h => run_loadB rfl (L1 _ _ h).2) ?_; refine hK _ ?_; clear hK K
      (refine walks_one fun K hK => ?_); refine st_pure rfl rfl (fun _ => rfl) ?_; refine hK _ ?_; clear hK K
      (refine walks_one fun K hK => ?_); refine st_pure rfl rfl (fun _ => rfl) ?_; refine hK _ ?_; clear hK K
      (refine walks_one fun K hK => ?_); refine st_pure (v := .pointer (some ⟨g', k * 2, none⟩)) rfl rfl (fun _ => (run_indexLn (a := ⟨g', 0, none⟩) (j := k) rfl rfl (by omega) (by omega)).trans (by rw [addr0, Int.toNat_natCast])) ?_; refine hK _ ?_; clear hK K
      (refine walks_one fun K hK => ?_); refine st_pure rfl rfl (fun _ => run_fld_line1 rfl) ?_; refine hK _ ?_; clear hK K
      (refine walks_one fun K hK => ?_); refine st_read rfl rfl (fun _ _ h => run_loadB rfl (L2 _ _ h).2) ?_; refine hK _ ?_; clear hK K
      (refine walks_one fun K hK => ?_); refine st_pure (v := .bool false) rfl rfl (fun _ => run_neB rfl rfl) ?_; refine hK _ ?_; clear hK K
      (refine walks_one fun K hK => ?_); refine st_pure rfl rfl (fun _ => rfl) ?_; refine hK _ ?_; clear hK K
      (refine walks_one fun K hK => ?_); refine st_pure rfl rfl (fun _ => rfl) ?_; refine hK _ ?_; clear hK K
      (refine walks_one fun K hK => ?_); refine st_pure rfl rfl (fun _ => rfl) ?_; refine hK _ ?_; clear hK K
      (refine walks_one fun K hK => ?_); refine st_pure (v := .pointer (some ⟨g, k * 2, none⟩)) rfl rfl (fun _ => (run_indexLn (a := ⟨g, 0, none⟩) (j := k) rfl rfl (by omega) (by omega)).trans (by rw [addr0, Int.toNat_natCast])) ?_; refine hK _ ?_; clear hK K
      (refine walks_one fun K hK => ?_); refine st_pure rfl rfl (fun _ => run_fld_line0 rfl) ?_; refine hK _ ?_; clear hK K
      (refine walks_one fun K hK => ?_); refine st_read rfl rfl (fun _ _ h => run_loadSl rfl (L1 _ _ h).1) ?_; refine hK _ ?_; clear hK K
      (refine walks_one fun K hK => ?_); refine st_pure rfl rfl (fun _ => rfl) ?_; refine hK _ ?_; clear hK K
      (refine walks_one fun K hK => ?_); refine st_pure rfl rfl (fun _ => rfl) ?_; refine hK _ ?_; clear hK K
      (refine walks_one fun K hK => ?_); refine st_pure (v := .pointer (some ⟨g', k * 2, none⟩)) rfl rfl (fun _ => (run_indexLn (a := ⟨g', 0, none⟩) (j := k) rfl rfl (by omega) (by omega)).trans (by rw [addr0, Int.toNat_natCast])) ?_; refine hK _ ?_; clear hK K
      (refine walks_one fun K hK => ?_); refine st_pure rfl rfl (fun _ => run_fld_line0 rfl) ?_; refine hK _ ?_; clear hK K
      (refine walks_one fun K hK => ?_); refine st_read rfl rfl (fun _ _ h => run_loadSl rfl (L2 _ _ h).1) ?_; refine hK _ ?_; clear hK K
      (refine walks_one fun K hK => ?_); refine st_call rfl rfl (fun _ => run_call2 rfl enters_samep) (fun _ w2 h => (samep_yes gp gq m cp cq ps w2 hm hm1 (HRP.out.next hgp h) (HRQ.out.next hgq h) (Nat.lt_of_lt_of_le hgp (Below.size h)) (Nat.lt_of_lt_of_le hgq (Below.size h))).mono fun e w3 h3 => ⟨h3.1, Over.next h h3.2⟩) ?_; refine hK _ ?_; clear hK K
      (refine walks_one fun K hK => ?_); refine st_pure rfl rfl (fun _ => run_not rfl) ?_; refine hK _ ?_; clear hK K
      refine walks_end fun a9 ha9 => hKQ _ fun w1 hC => ?_
      refine sq_val (v := .bool false) ha9 rfl rfl fun a10 ha10 => ?_
      refine wpList_nil ?_
      refine hKn _ _ ?_
      obtain ⟨g9, hg9, k0, k1, k2, k3, k5, k6, k7, k8, k9, k10, k11, k12, k13, k40⟩ : ∃ g9, Is a10 42 g9 ∧ g9 0 = .slice (some ⟨g, 0, none⟩) n c ∧ g9 1 = .slice (some ⟨g', 0, none⟩) n c' ∧ g9 2 = undef ∧ g9 3 = undef ∧ g9 5 = .int .i64 (k) ∧ g9 6 = .slice (some ⟨g, 0, none⟩) n c ∧ g9 7 = .int .i64 (n) ∧ g9 8 = .slice (some ⟨g', 0, none⟩) n c' ∧ g9 9 = .int .i64 (n) ∧ g9 10 = .bool false ∧ g9 11 = .slice (some ⟨g, 0, none⟩) n c ∧ g9 12 = .int .i64 (n) ∧ g9 13 = .int .i64 (k) ∧ g9 40 = .bool false := ⟨_, ha10, rfl, rfl, rfl, rfl, rfl, rfl, rfl, rfl, rfl, rfl, rfl, rfl, rfl, rfl⟩
      have hw := hg9.whole
      rw [show ((List.range 42).map g9).toArray = #[g9 0, g9 1, g9 2, g9 3, g9 4, g9 5, g9 6, g9 7, g9 8, g9 9, g9 10, g9 11, g9 12, g9 13, g9 14, g9 15, g9 16, g9 17, g9 18, g9 19, g9 20, g9 21, g9 22, g9 23, g9 24, g9 25, g9 26, g9 27, g9 28, g9 29, g9 30, g9 31, g9 32, g9 33, g9 34, g9 35, g9 36, g9 37, g9 38, g9 39, g9 40, g9 41] from rfl] at hw
      rw [k0, k1, k2, k3, k5, k6, k7, k8, k9, k10, k11, k12, k13, k40] at hw
      subst hw
      clear hg9 k0 k1 k2 k3 k5 k6 k7 k8 k9 k10 k11 k12 k13 k40
      have HB1 := hid (below_next HB.out hC)
      clear ha9 ha10 hC hKQ KQ hKn L1 L2 hc0 hc1 hd0 hd1
      go_wp2_with fail
      go_roundw
      case rel => exact ⟨k + 1, by omega, by go_num, HB1⟩
      case measure => simp [intOf]; omega
    · go_wp2_with fail
      go_ret
      exact ⟨rfl, HB.out⟩
theorem samel_none (A A' : Option Addr) (c c' : Nat) (w : World) :
    Calls Try.prog 27 #[.slice A 0 c, .slice A' 0 c'] w fun e w' => e = .returned (.bool true) ∧ Below w.heap.size w w' := by
  go_enter Try.func27, Try.ntmps27
  go_wp2_with fail
  go_loopw [13] (fun s13 wr => s13 = .int .i64 0 ∧ Hid (Below w.heap.size w wr)) (fun s13 _ => 0)
  case atStart => exact ⟨rfl, hid (Below.refl _ w)⟩
  case round =>
    obtain ⟨rfl, HB⟩ := hrel
    go_wp2_with fail
    go_ret
    exact ⟨rfl, HB.out⟩
theorem samel_yes (v v' : Value) (es es' : List LE) (w : World) (he : es.map (·.2) = es'.map (·.2)) (hm : es.length ≤ 100000) (hl : ∀ e ∈ es, e.2.ps.length ≤ 1000000) (h : Lines w v es) (h' : Lines w v' es') :
    Calls Try.prog 27 #[v, v'] w fun e w' => e = .returned (.bool true) ∧ Below w.heap.size w w' := by
  obtain ⟨A, c, rfl, h2⟩ := h
  obtain ⟨A', c', rfl, h2'⟩ := h'
  have hn : es.length = es'.length := by simpa using congrArg List.length he
  rcases Nat.eq_zero_or_pos es.length with h0 | h0
  · rw [← hn, h0]; exact samel_none A A' c c' w
  · obtain ⟨g, rfl, h4, h5⟩ := h2 h0
    obtain ⟨g', rfl, h4', h5'⟩ := h2' (by omega)
    rw [← hn]
    exact samel_some g g' es.length c c' es es' w rfl he hm hl h5 h5' h4 h4'

end Go.Proofs.Ytcdedefhofkbhaa
