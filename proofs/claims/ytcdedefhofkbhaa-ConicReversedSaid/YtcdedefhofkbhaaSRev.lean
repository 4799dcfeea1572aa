/- slices.Reverse and slices.Equal on points. -/
import Derived.Test.YtcdedefhofkbhaaSameP
namespace Go.Proofs.Ytcdedefhofkbhaa
open Go Go.RowKit
set_option linter.unusedVariables false
set_option linter.unusedSimpArgs false

set_option maxHeartbeats 1600000 in
set_option maxRecDepth 100000 in
theorem equalp_yes (g g' n c c' : Nat) (ps : List P2) (w : World) (hn : n = ps.length) (hm : n ≤ 1000000) (hr : Row2 w g ps) (hr' : Row2 w g' ps) (hg : g < w.heap.size) (hg' : g' < w.heap.size) :
    Calls Try.prog 17 #[.slice (some ⟨g, 0, none⟩) n c, .slice (some ⟨g', 0, none⟩) n c'] w fun e w' => e = .returned (.bool true) ∧ Below w.heap.size w w' := by
  have HR := hid hr
  have HR' := hid hr'
  have HN := hid hn
  clear hr hr' hn
  go_enter Try.func17, Try.ntmps17
  go_wp2_with fail
  go_loopw [13] (fun s13 wr => ∃ k : Nat, k ≤ n ∧ s13 = .int .i64 k ∧ Hid (Below w.heap.size w wr)) (fun s13 _ => n - (intOf s13).toNat)
  case atStart => exact ⟨0, Nat.zero_le _, rfl, hid (Below.refl _ w)⟩
  case round =>
    obtain ⟨k, hk, rfl, HB⟩ := hrel
    by_cases hlt : k < n
    · have hq : ps[k]? = some (ps[k]'(by have := HN.out; omega)) := List.getElem?_eq_getElem _
      have HR1 := hid (HR.out.next hg HB.out)
      have HR2 := hid (HR'.out.next hg' HB.out)
      have hg1 : g < wr.heap.size := Nat.lt_of_lt_of_le hg HB.out.size
      have hg2 : g' < wr.heap.size := Nat.lt_of_lt_of_le hg' HB.out.size
      generalize ps[k]'(_) = q at hq
      go_upto_region 6 with fail
      rename_i Kn hKn
      refine wp_region_fan 8 1000 (Over wr) (by kernel_rfl) (by kernel_rfl) (Over.start wr) ?_
      simp only [List.take_succ_cons, List.take_zero, List.drop_succ_cons, List.drop_zero]
      refine WalksE.sound _ _ _ _ ?_ ((((((((((((((Is.start _ (n := 26) rfl).pin 0 (v := .slice (some ⟨g, 0, none⟩) n c) rfl).pin 1 (v := .slice (some ⟨g', 0, none⟩) n c') rfl).pin 2 (v := undef) rfl).pin 3 (v := undef) rfl).pin 5 (v := .int .i64 (k)) rfl).pin 6 (v := .slice (some ⟨g, 0, none⟩) n c) rfl).pin 7 (v := .int .i64 (n)) rfl).pin 8 (v := .slice (some ⟨g', 0, none⟩) n c') rfl).pin 9 (v := .int .i64 (n)) rfl).pin 10 (v := .bool false) rfl).pin 11 (v := .slice (some ⟨g, 0, none⟩) n c) rfl).pin 12 (v := .int .i64 (n)) rfl).pin 13 (v := .int .i64 (k)) rfl)
      generalize (fun i => Array.getD _ i undef) = gfn
      refine walks_with fun KQ hKQ => ?_
      (refine walks_one fun K hK => ?_); refine st_pure rfl rfl (fun _ => rfl) ?_; refine hK _ ?_; clear hK K
      (refine walks_one fun K hK => ?_); refine st_pure rfl rfl (fun _ => rfl) ?_; refine hK _ ?_; clear hK K
      (refine walks_one fun K hK => ?_); refine st_pure (v := .pointer (some ⟨g, k * 2, none⟩)) rfl rfl (fun _ => (run_indexPt (a := ⟨g, 0, none⟩) (j := k) rfl rfl (by omega) (by omega)).trans (by rw [addr0, Int.toNat_natCast])) ?_; refine hK _ ?_; clear hK K
      (refine walks_one fun K hK => ?_); refine st_read rfl rfl (fun _ _ h => run_ptAt (p := q) rfl ((HR1.out.next hg1 h) k _ hq).1 ((HR1.out.next hg1 h) k _ hq).2) ?_; refine hK _ ?_; clear hK K
      (refine walks_one fun K hK => ?_); refine st_pure rfl rfl (fun _ => rfl) ?_; refine hK _ ?_; clear hK K
      (refine walks_one fun K hK => ?_); refine st_pure rfl rfl (fun _ => rfl) ?_; refine hK _ ?_; clear hK K
      (refine walks_one fun K hK => ?_); refine st_pure (v := .pointer (some ⟨g', k * 2, none⟩)) rfl rfl (fun _ => (run_indexPt (a := ⟨g', 0, none⟩) (j := k) rfl rfl (by omega) (by omega)).trans (by rw [addr0, Int.toNat_natCast])) ?_; refine hK _ ?_; clear hK K
      (refine walks_one fun K hK => ?_); refine st_read rfl rfl (fun _ _ h => run_ptAt (p := q) rfl ((HR2.out.next hg2 h) k _ hq).1 ((HR2.out.next hg2 h) k _ hq).2) ?_; refine hK _ ?_; clear hK K
      refine walks_end fun a9 ha9 => hKQ _ fun w1 hC => ?_
      refine sq_val (v := .bool false) ha9 rfl (run_nePt (p := q) rfl rfl) fun a10 ha10 => ?_
      refine wpList_nil ?_
      refine hKn _ _ ?_
      obtain ⟨g9, hg9, k0, k1, k2, k3, k5, k6, k7, k8, k9, k10, k11, k12, k13, k24⟩ : ∃ g9, Is a10 26 g9 ∧ g9 0 = .slice (some ⟨g, 0, none⟩) n c ∧ g9 1 = .slice (some ⟨g', 0, none⟩) n c' ∧ g9 2 = undef ∧ g9 3 = undef ∧ g9 5 = .int .i64 (k) ∧ g9 6 = .slice (some ⟨g, 0, none⟩) n c ∧ g9 7 = .int .i64 (n) ∧ g9 8 = .slice (some ⟨g', 0, none⟩) n c' ∧ g9 9 = .int .i64 (n) ∧ g9 10 = .bool false ∧ g9 11 = .slice (some ⟨g, 0, none⟩) n c ∧ g9 12 = .int .i64 (n) ∧ g9 13 = .int .i64 (k) ∧ g9 24 = .bool false := ⟨_, ha10, rfl, rfl, rfl, rfl, rfl, rfl, rfl, rfl, rfl, rfl, rfl, rfl, rfl, rfl⟩
      have hw := hg9.whole
      rw [show ((List.range 26).map g9).toArray = #[g9 0, g9 1, g9 2, g9 3, g9 4, g9 5, g9 6, g9 7, g9 8, g9 9, g9 10, g9 11, g9 12, g9 13, g9 14, g9 15, g9 16, g9 17, g9 18, g9 19, g9 20, g9 21, g9 22, g9 23, g9 24, g9 25] from rfl] at hw
      rw [k0, k1, k2, k3, k5, k6, k7, k8, k9, k10, k11, k12, k13, k24] at hw
      subst hw
      clear hg9 k0 k1 k2 k3 k5 k6 k7 k8 k9 k10 k11 k12 k13 k24
      have HB1 := hid (below_next HB.out hC)
      clear ha9 ha10 hC hKQ KQ hKn Kn HR1 HR2 hg1 hg2 HB hq
      go_wp2_with fail
      go_roundw
      case rel => exact ⟨k + 1, by omega, by go_num, HB1⟩
      case measure => simp [intOf]; omega
    · go_wp2_with fail
      go_ret
      exact ⟨rfl, HB.out⟩

theorem grown_trans {w w1 w2 : World} {o : Option Nat} (h : w.grownBy w1 o) (h' : w1.grownBy w2 o) : w.grownBy w2 o :=
  ⟨h'.os.trans h.os, h'.tape.trans h.tape, h'.output.trans h.output, Nat.le_trans h.size h'.size, fun k hk hne => (h'.block k (Nat.lt_of_lt_of_le hk h.size) hne).trans (h.block k hk hne)⟩
theorem grown_refl (w : World) (o : Option Nat) : w.grownBy w o := ⟨rfl, rfl, rfl, Nat.le_refl _, fun _ _ _ => rfl⟩
theorem grown_drew (w : World) (o : Option Nat) : w.grownBy w.drew o := ⟨rfl, rfl, rfl, Nat.le_refl _, fun _ _ _ => rfl⟩
theorem grown_set (w : World) (g j : Nat) (u : Value) : w.grownBy (w.setCell ⟨g, j, none⟩ u) (some g) :=
  ⟨rfl, rfl, rfl, by simp [World.setCell], fun k _ hne => Below.heap_setCell _ _ _ _ (fun e => hne (by rw [e]))⟩
/-- The point that stands at t when k points of each end have changed places. -/
def rvi (n k t : Nat) : Nat := if t < k ∨ n ≤ t + k then n - 1 - t else t
def RSt (n k : Nat) (ps : List P2) (cs : Array Value) : Prop := ∀ t, t < n → cs[t * 2]? = some (.int .i64 (ps.getD (rvi n k t) default).x) ∧ cs[t * 2 + 1]? = some (.int .i64 (ps.getD (rvi n k t) default).y)
theorem RSt.swap {n k j : Nat} {ps : List P2} {cs : Array Value} (h : RSt n k ps cs) (hn : k + j + 1 = n) (hlt : k < j) (hsz : n * 2 ≤ cs.size) :
    RSt n (k + 1) ps ((((cs.setIfInBounds (k * 2) (.int .i64 (ps.getD j default).x)).setIfInBounds (k * 2 + 1) (.int .i64 (ps.getD j default).y)).setIfInBounds (j * 2) (.int .i64 (ps.getD k default).x)).setIfInBounds (j * 2 + 1) (.int .i64 (ps.getD k default).y)) := by
  intro t ht
  by_cases e : t = k
  · subst e
    rw [show rvi n (t + 1) t = j by unfold rvi; rw [if_pos (by omega)]; omega]
    constructor
    · rw [Array.getElem?_setIfInBounds_ne (by omega), Array.getElem?_setIfInBounds_ne (by omega), Array.getElem?_setIfInBounds_ne (by omega), Array.getElem?_setIfInBounds_self_of_lt (by omega)]
    · rw [Array.getElem?_setIfInBounds_ne (by omega), Array.getElem?_setIfInBounds_ne (by omega), Array.getElem?_setIfInBounds_self_of_lt (by simp; omega)]
  · by_cases e2 : t = j
    · subst e2
      rw [show rvi n (k + 1) t = k by unfold rvi; rw [if_pos (by omega)]; omega]
      constructor
      · rw [Array.getElem?_setIfInBounds_ne (by omega), Array.getElem?_setIfInBounds_self_of_lt (by simp; omega)]
      · rw [Array.getElem?_setIfInBounds_self_of_lt (by simp; omega)]
    · have hr : rvi n (k + 1) t = rvi n k t := by
        unfold rvi
        by_cases hc : t < k ∨ n ≤ t + k
        · rw [if_pos hc, if_pos (by omega)]
        · rw [if_neg hc, if_neg (by omega)]
      rw [hr, Array.getElem?_setIfInBounds_ne (by omega), Array.getElem?_setIfInBounds_ne (by omega), Array.getElem?_setIfInBounds_ne (by omega), Array.getElem?_setIfInBounds_ne (by omega), Array.getElem?_setIfInBounds_ne (by omega), Array.getElem?_setIfInBounds_ne (by omega), Array.getElem?_setIfInBounds_ne (by omega), Array.getElem?_setIfInBounds_ne (by omega)]
      exact h t ht
theorem RSt.at_ {n k t : Nat} {ps : List P2} {cs : Array Value} {w : World} {g : Nat} {T : TypeId} (h : RSt n k ps cs) (hV : Var w g cs T) (ht : t < n) (h1 : k ≤ t) (h2 : t + k < n) :
    w.cell? ⟨g, t * 2, none⟩ = some (.int .i64 (ps.getD t default).x) ∧ w.cell? ⟨g, t * 2 + 1, none⟩ = some (.int .i64 (ps.getD t default).y) := by
  have := h t ht
  rw [show rvi n k t = t by unfold rvi; rw [if_neg (by omega)]] at this
  exact ⟨(hV.cell _).trans this.1, (hV.cell _).trans this.2⟩
theorem RSt.done {n k j : Nat} {ps : List P2} {cs : Array Value} {w : World} {g : Nat} {T : TypeId} (h : RSt n k ps cs) (hV : Var w g cs T) (hn : k + j + 1 = n) (hle : j ≤ k) (hp : n = ps.length) : Row2 w g ps.reverse := by
  intro t p ht
  have htn : t < n := by
    rcases Nat.lt_or_ge t n with e | e
    · exact e
    · rw [List.getElem?_eq_none (by simp; omega)] at ht; cases ht
  have := h t htn
  have hr : rvi n k t = n - 1 - t := by
    unfold rvi
    split
    · rfl
    · omega
  rw [List.getElem?_reverse (by omega)] at ht
  rw [hr, List.getD_eq_getElem?_getD, hp, ht] at this
  exact ⟨(hV.cell _).trans this.1, (hV.cell _).trans this.2⟩

/-- The memory while two points change places. -/
structure MSw (W W1 W2 : World) (L : Nat → Bool) (w : World) : Prop where
  a : L 15 = true → L 13 = true
  b : L 13 = true → L 7 = true ∧ L 11 = true
  w0 : L 13 = false → w = W.drew
  w1 : L 13 = true → L 15 = false → w = W1
  w2 : L 15 = true → w = W2
section
variable {W W1 W2 w w' : World} {L : Nat → Bool} {i : Nat}
theorem MSw.next (h : MSw W W1 W2 L w) (hi : (Nat.beq 13 i || Nat.beq 15 i) = false) : MSw W W1 W2 (Iv.mark L i) w := by
  rw [Bool.or_eq_false_iff] at hi
  have ne : ∀ {a b : Nat}, Nat.beq a b = false → a ≠ b := fun h e => by rw [e, Nat.beq_refl] at h; cases h
  have e1 : Iv.mark L i 13 = L 13 := mark_ne (ne hi.1)
  have e2 : Iv.mark L i 15 = L 15 := mark_ne (ne hi.2)
  refine ⟨fun k => ?_, fun k => ?_, fun k => ?_, fun k k' => ?_, fun k => ?_⟩
  · rw [e1]; exact h.a (by rwa [e2] at k)
  · rw [e1] at k; exact ⟨mark_le (h.b k).1, mark_le (h.b k).2⟩
  · exact h.w0 (by rwa [e1] at k)
  · exact h.w1 (by rwa [e1] at k) (by rwa [e2] at k')
  · exact h.w2 (by rwa [e2] at k)
theorem MSw.start0 (h : MSw W W1 W2 L w) (hi : L 7 = false ∨ L 11 = false) : w = W.drew := by
  refine h.w0 ?_
  cases e : L 13
  · rfl
  · obtain ⟨h1, h2⟩ := h.b e
    rcases hi with k | k
    · rw [h1] at k; cases k
    · rw [h2] at k; cases k
theorem MSw.start1 (h : MSw W W1 W2 L w) (hi : L 13 = false) : w = W.drew := h.w0 hi
theorem MSw.start2 (h : MSw W W1 W2 L w) (h3 : L 13 = true) (hi : L 15 = false) : w = W1 := h.w1 h3 hi
theorem MSw.st13 (h : MSw W W1 W2 L w) (h7 : L 7 = true) (h11 : L 11 = true) (hi : L 13 = false) : MSw W W1 W2 (Iv.mark L 13) W1 := by
  have h15 : L 15 = false := by
    cases e : L 15
    · rfl
    · rw [h.a e] at hi; cases hi
  have e2 : Iv.mark L 13 15 = L 15 := mark_ne (by decide)
  have e1 : Iv.mark L 13 13 = true := rfl
  refine ⟨fun k => e1, fun k => ⟨mark_le h7, mark_le h11⟩, fun k => ?_, fun k k' => rfl, fun k => ?_⟩
  · rw [e1] at k; cases k
  · rw [e2, h15] at k; cases k
theorem MSw.st15 (h : MSw W W1 W2 L w) (h13 : L 13 = true) : MSw W W1 W2 (Iv.mark L 15) W2 := by
  have e1 : Iv.mark L 15 13 = L 13 := mark_ne (by decide)
  have e2 : Iv.mark L 15 15 = true := rfl
  refine ⟨fun k => by rw [e1]; exact h13, fun k => ⟨mark_le (h.b h13).1, mark_le (h.b h13).2⟩, fun k => ?_, fun k k' => ?_, fun k => rfl⟩
  · rw [e1, h13] at k; cases k
  · rw [e2] at k'; cases k'
end

set_option maxHeartbeats 3200000 in
set_option maxRecDepth 100000 in
theorem srev_any (g n c : Nat) (ps : List P2) (cs : Array Value) (w : World) (hn : n = ps.length) (h0 : 0 < n) (hm : n ≤ 1000000) (hV : Var w g cs 23) (hsz : n * 2 ≤ cs.size) (hr : Row2 w g ps) :
    Calls Try.prog 16 #[.slice (some ⟨g, 0, none⟩) n c] w fun e w' => (∃ v, e = .returned v) ∧ Row2 w' g ps.reverse ∧ w.grownBy w' (some g) := by
  have HN := hid hn
  have HV := hid hV
  have HS := hid (show RSt n 0 ps cs from fun t ht => by
    rw [show rvi n 0 t = t by unfold rvi; rw [if_neg (by omega)]]
    have hq : ps[t]? = some (ps.getD t default) := by rw [List.getD_eq_getElem?_getD, List.getElem?_eq_getElem (by omega)]; rfl
    obtain ⟨r1, r2⟩ := hr t _ hq
    exact ⟨(hV.cell _).symm.trans r1, (hV.cell _).symm.trans r2⟩)
  clear hn hV hr
  go_enter Try.func16, Try.ntmps16
  go_wp2_with fail
  go_loopw [2, 3] (fun s2 s3 wr => ∃ (k j : Nat) (cs : Array Value), k + j + 1 = n ∧ k ≤ j + 1 ∧ s2 = .int .i64 (k : Int) ∧ s3 = .int .i64 (j : Int) ∧ Hid (Var wr g cs 23) ∧ Hid (n * 2 ≤ cs.size) ∧ Hid (RSt n k ps cs) ∧ Hid (w.grownBy wr (some g))) (fun s2 _ _ => n - (intOf s2).toNat)
  case atStart => exact ⟨0, n - 1, cs, by omega, by omega, rfl, by congr 1; omega, HV, hid hsz, HS, hid (grown_refl _ _)⟩
  case round =>
    obtain ⟨k, j, cs, hkj, hk, rfl, rfl, HV, HZ, HS, HG⟩ := hrel
    by_cases hlt : k < j
    · obtain ⟨q, hq⟩ : ∃ q, ps.getD j default = q := ⟨_, rfl⟩
      obtain ⟨p, hp⟩ : ∃ p, ps.getD k default = p := ⟨_, rfl⟩
      have HQ := hid (HS.out.at_ HV.out (t := j) (by omega) (by omega) (by omega))
      have HP := hid (HS.out.at_ HV.out (t := k) (by omega) (by omega) (by omega))
      have HS1 := hid (HS.out.swap hkj hlt HZ.out)
      rw [hq] at HQ HS1
      rw [hp] at HP HS1
      have hz := HZ.out
      have hltb : decide ((k : Int) < (j : Int)) = true := decide_eq_true (by omega)
      clear hq hp hsz
      go_upto_region 3 with fail
      rename ∀ (a : Act) (w : World), Code.wp _ _ _ a w → (_ : Act → World → Prop) a w => hKn
      have HV0 := hid (show Var wr.drew g cs 23 from HV.out)
      have HV1 := hid ((HV0.out.set (i := k * 2) (.int .i64 q.x)).set (i := k * 2 + 1) (.int .i64 q.y))
      have HV2 := hid ((HV1.out.set (i := j * 2) (.int .i64 p.x)).set (i := j * 2 + 1) (.int .i64 p.y))
      have HG2 := hid (grown_trans HG.out (grown_trans (grown_drew wr (some g)) (grown_trans (grown_set _ g (k * 2) (.int .i64 q.x)) (grown_trans (grown_set _ g (k * 2 + 1) (.int .i64 q.y)) (grown_trans (grown_set _ g (j * 2) (.int .i64 p.x)) (grown_set _ g (j * 2 + 1) (.int .i64 p.y)))))))
      have HZ2 := hid (show n * 2 ≤ ((((cs.setIfInBounds (k * 2) (.int .i64 q.x)).setIfInBounds (k * 2 + 1) (.int .i64 q.y)).setIfInBounds (j * 2) (.int .i64 p.x)).setIfInBounds (j * 2 + 1) (.int .i64 p.y)).size by simp; omega)
      refine Iv.wp_region_inv (n := 28) (TI [some 14, some 15, some 16, some 17, some 18, some 19, some 20, some 21, some 22, some 23, some 24, some 25, some 26, none, some 27, none]
        [.slice (some ⟨g, 0, none⟩) n c, .int .i64 (k : Int), .slice (some ⟨g, 0, none⟩) n c, .int .i64 (j : Int), .slice (some ⟨g, 0, none⟩) n c, .int .i64 (j : Int), .pointer (some ⟨g, j * 2, none⟩), ptv q, .slice (some ⟨g, 0, none⟩) n c, .int .i64 (k : Int), .pointer (some ⟨g, k * 2, none⟩), ptv p, .pointer (some ⟨g, k * 2, none⟩), undef, .pointer (some ⟨g, j * 2, none⟩), undef]
        [(0, .slice (some ⟨g, 0, none⟩) n c), (1, undef), (2, .int .i64 (k : Int)), (3, .int .i64 (j : Int)), (4, .slice (some ⟨g, 0, none⟩) n c), (5, .int .i64 (n : Int)), (6, .int .i64 ((n : Int) - 1))] (MSw wr ((wr.drew.setCell ⟨g, k * 2, none⟩ (.int .i64 q.x)).setCell ⟨g, k * 2 + 1, none⟩ (.int .i64 q.y)) ((((wr.drew.setCell ⟨g, k * 2, none⟩ (.int .i64 q.x)).setCell ⟨g, k * 2 + 1, none⟩ (.int .i64 q.y)).setCell ⟨g, j * 2, none⟩ (.int .i64 p.x)).setCell ⟨g, j * 2 + 1, none⟩ (.int .i64 p.y)))) _ (by kernel_rfl) (by kernel_rfl) (Is.start _ rfl) ?_ ?_ ?_
      · refine ⟨fun i d _ h => (by cases h), fun q hq => ?_, ⟨fun h => (by cases h), fun h => (by cases h), fun _ => rfl, fun h => (by cases h), fun h => (by cases h)⟩⟩
        simp only [List.mem_cons, List.not_mem_nil, or_false] at hq
        rcases hq with rfl | rfl | rfl | rfl | rfl | rfl | rfl
        all_goals rfl
      · exact ⟨ti_val rfl rfl rfl (fun _ _ h => h.next rfl) rfl fun L f wx hL hdep H => congrArg (fun v => Result.ok (Next.value v) wx) (H.x (0, .slice (some ⟨g, 0, none⟩) n c) (by simp)),
        ti_val rfl rfl rfl (fun _ _ h => h.next rfl) rfl fun L f wx hL hdep H => congrArg (fun v => Result.ok (Next.value v) wx) (H.x (2, .int .i64 (k : Int)) (by simp)),
        ti_val rfl rfl rfl (fun _ _ h => h.next rfl) rfl fun L f wx hL hdep H => congrArg (fun v => Result.ok (Next.value v) wx) (H.x (0, .slice (some ⟨g, 0, none⟩) n c) (by simp)),
        ti_val rfl rfl rfl (fun _ _ h => h.next rfl) rfl fun L f wx hL hdep H => congrArg (fun v => Result.ok (Next.value v) wx) (H.x (3, .int .i64 (j : Int)) (by simp)),
        ti_val rfl rfl rfl (fun _ _ h => h.next rfl) rfl fun L f wx hL hdep H => congrArg (fun v => Result.ok (Next.value v) wx) (H.x (0, .slice (some ⟨g, 0, none⟩) n c) (by simp)),
        ti_val rfl rfl rfl (fun _ _ h => h.next rfl) rfl fun L f wx hL hdep H => congrArg (fun v => Result.ok (Next.value v) wx) (H.x (3, .int .i64 (j : Int)) (by simp)),
        ti_val rfl rfl rfl (fun _ _ h => h.next rfl) rfl fun L f wx hL hdep H => (run_indexPt (a := ⟨g, 0, none⟩) (j := (j : Int)) (H.t 4 18 rfl (hdep ⟨4, .data⟩ (by simp) rfl)) (H.t 5 19 rfl (hdep ⟨5, .data⟩ (by simp) rfl)) (by omega) (by omega)).trans (by rw [addr0, Int.toNat_natCast]; rfl),
        ti_val rfl rfl rfl (fun _ _ h => h.next rfl) rfl fun L f wx hL hdep H => by
      have e := H.m.start0 (.inl hL)
      subst e
      exact run_ptAt (p := q) (H.t 6 20 rfl (hdep ⟨6, .data⟩ (by simp) rfl)) HQ.out.1 HQ.out.2,
        ti_val rfl rfl rfl (fun _ _ h => h.next rfl) rfl fun L f wx hL hdep H => congrArg (fun v => Result.ok (Next.value v) wx) (H.x (0, .slice (some ⟨g, 0, none⟩) n c) (by simp)),
        ti_val rfl rfl rfl (fun _ _ h => h.next rfl) rfl fun L f wx hL hdep H => congrArg (fun v => Result.ok (Next.value v) wx) (H.x (2, .int .i64 (k : Int)) (by simp)),
        ti_val rfl rfl rfl (fun _ _ h => h.next rfl) rfl fun L f wx hL hdep H => (run_indexPt (a := ⟨g, 0, none⟩) (j := (k : Int)) (H.t 8 22 rfl (hdep ⟨8, .data⟩ (by simp) rfl)) (H.t 9 23 rfl (hdep ⟨9, .data⟩ (by simp) rfl)) (by omega) (by omega)).trans (by rw [addr0, Int.toNat_natCast]; rfl),
        ti_val rfl rfl rfl (fun _ _ h => h.next rfl) rfl fun L f wx hL hdep H => by
      have e := H.m.start0 (.inr hL)
      subst e
      exact run_ptAt (p := p) (H.t 10 24 rfl (hdep ⟨10, .data⟩ (by simp) rfl)) HP.out.1 HP.out.2,
        ti_val rfl rfl rfl (fun _ _ h => h.next rfl) rfl fun L f wx hL hdep H => (run_indexPt (a := ⟨g, 0, none⟩) (j := (k : Int)) (H.t 0 14 rfl (hdep ⟨0, .data⟩ (by simp) rfl)) (H.t 1 15 rfl (hdep ⟨1, .data⟩ (by simp) rfl)) (by omega) (by omega)).trans (by rw [addr0, Int.toNat_natCast]; rfl),
        ti_store rfl fun L f wx hL hdep H => by
      have e := H.m.start1 hL
      subst e
      exact ⟨_, run_storeRow (H.t 12 26 rfl (hdep ⟨12, .data⟩ (by simp) rfl)) (H.t 7 21 rfl (hdep ⟨7, .data⟩ (by simp) rfl)) HV0.out (by omega), H.m.st13 (hdep ⟨7, .data⟩ (by simp) rfl) (hdep ⟨11, .phase⟩ (by simp) rfl) hL⟩,
        ti_val rfl rfl rfl (fun _ _ h => h.next rfl) rfl fun L f wx hL hdep H => (run_indexPt (a := ⟨g, 0, none⟩) (j := (j : Int)) (H.t 2 16 rfl (hdep ⟨2, .data⟩ (by simp) rfl)) (H.t 3 17 rfl (hdep ⟨3, .data⟩ (by simp) rfl)) (by omega) (by omega)).trans (by rw [addr0, Int.toNat_natCast]; rfl),
        ti_store rfl fun L f wx hL hdep H => by
      have e := H.m.start2 (hdep ⟨13, .chain⟩ (by simp) rfl) hL
      subst e
      exact ⟨_, run_storeRow (H.t 14 27 rfl (hdep ⟨14, .data⟩ (by simp) rfl)) (H.t 11 25 rfl (hdep ⟨11, .data⟩ (by simp) rfl)) HV1.out (by simp; omega), H.m.st15 (hdep ⟨13, .chain⟩ (by simp) rfl)⟩, trivial⟩
      intro L f act w1 hall H ha
      refine hKn _ _ ?_
      have k0 : f 0 = .slice (some ⟨g, 0, none⟩) n c := H.x (0, .slice (some ⟨g, 0, none⟩) n c) (by simp)
      have k2 : f 2 = .int .i64 (k : Int) := H.x (2, .int .i64 (k : Int)) (by simp)
      have k3 : f 3 = .int .i64 (j : Int) := H.x (3, .int .i64 (j : Int)) (by simp)
      have k1 : f 1 = undef := H.x (1, undef) (by simp)
      have k4 : f 4 = .slice (some ⟨g, 0, none⟩) n c := H.x (4, .slice (some ⟨g, 0, none⟩) n c) (by simp)
      have k5 : f 5 = .int .i64 (n : Int) := H.x (5, .int .i64 (n : Int)) (by simp)
      have k6 : f 6 = .int .i64 ((n : Int) - 1) := H.x (6, .int .i64 ((n : Int) - 1)) (by simp)
      have hW := H.m.w2 (hall 15 (by decide))
      have hw := ha.whole
      rw [show ((List.range 28).map f).toArray = #[f 0, f 1, f 2, f 3, f 4, f 5, f 6, f 7, f 8, f 9, f 10, f 11, f 12, f 13, f 14, f 15, f 16, f 17, f 18, f 19, f 20, f 21, f 22, f 23, f 24, f 25, f 26, f 27] from rfl] at hw
      rw [k0, k1, k2, k3, k4, k5, k6] at hw
      subst hw
      subst hW
      clear ha H hall hKn k0 k1 k2 k3 k4 k5 k6 L HV0 HV1 HG HV HS HQ HP HZ
      generalize ((((wr.drew.setCell _ _).setCell _ _).setCell _ _).setCell _ _) = w4 at HV2 HG2 ⊢
      generalize ((((cs.setIfInBounds _ _).setIfInBounds _ _).setIfInBounds _ _).setIfInBounds _ _) = cs4 at HV2 HZ2 HS1
      go_wp2_with fail
      go_roundw
      case rel => exact ⟨k + 1, j - 1, cs4, by omega, by omega, by go_num, by congr 1; omega, HV2, HZ2, HS1, HG2⟩
      case measure => simp [intOf]; omega
    · have HD := hid (HS.out.done HV.out hkj (by omega) HN.out)
      have hltb : decide ((k : Int) < (j : Int)) = false := decide_eq_false (by omega)
      go_wp2_with fail
      go_end0
      exact ⟨⟨_, rfl⟩, HD.out, HG.out⟩

end Go.Proofs.Ytcdedefhofkbhaa
