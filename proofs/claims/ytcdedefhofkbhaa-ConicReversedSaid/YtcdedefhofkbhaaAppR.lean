/- appendReversed of package path. -/
import Derived.Test.YtcdedefhofkbhaaEnds
import Derived.Test.YtcdedefhofkbhaaStepB
import Derived.Test.YtcdedefhofkbhaaApd
namespace Go.Proofs.Ytcdedefhofkbhaa
open Go Go.RowKit
set_option linter.unusedVariables false
set_option linter.unusedSimpArgs false

section
variable {P : Program} {ρ : Operand → Value} {dst : Option Tmp} {ty : TypeId} {pos : String} {af : Array Edge} {x y : Operand} {w : World} {gd : Option (Nat × Bool)}
theorem run_fld {a : Addr} {i : Nat} (hi : i < 6) (hx : ρ x = .pointer (some a)) :
    (execOp ρ { dst := dst, op := .fieldAddr 25 x i, type := ty, pos := pos, after := af, guard := gd }).run Try.prog w = .ok (.value (.pointer (some (a.add i)))) w := by
  have hi' : i = 0 ∨ i = 1 ∨ i = 2 ∨ i = 3 ∨ i = 4 ∨ i = 5 := by omega
  rcases hi' with rfl | rfl | rfl | rfl | rfl | rfl
  all_goals go_simp
end
section
variable {P : Program} {w : World}
/-- The operation, for the walk. -/
theorem wpList_append_by {ops : Array Oper} {rest : List Oper} {o : Oper} {a : Act} {Q : Exit → Act → World → Prop} {R : Value → World → Prop} (hgd : o.guard = none) (s x : Operand) (t u : TypeId)
    (ho : o.op = .call { callee := .builtin .append, args := #[s, x], argTypes := #[t, u] }) (v y : Value) (hs : a.eval s = v) (hx : a.eval x = y)
    (hr : ∃ v' w', (Builtin.append_ #[t, u] o.type #[v, y]).run P w = .ok v' w' ∧ R v' w')
    (h : ∀ v' w', R v' w' → wpList P ops Q rest (a.put o.dst v') w') : wpList P ops Q (o :: rest) a w :=
  wpList_plain hgd fun _ hK => by
    obtain ⟨v', w', h1, h2⟩ := hr
    unfold Oper.wp execOp
    simp only [ho, resolve, invoke, builtin, Sem.run_bind, Sem.run_pure, Result.andThen_ok, List.map_toArray, List.map_cons, List.map_nil, hs, hx, h1]
    exact hK _ _ (h v' w' h2)
end

theorem segs_sg {w : World} {a : Addr} {ss : List Sg} (h : Segs w (some a) ss) {i : Nat} (hi : i < ss.length) : a.block < w.heap.size ∧ SegAt w (a.add (i * 6)) (sg ss i) := by
  obtain ⟨a', e, hl, hs⟩ := h.at_ hi
  cases e
  rw [sg_at hi] at hs
  exact ⟨hl, hs⟩

theorem backs_succ (ss : List Sg) (lo d : Nat) : backs ss lo (d + 1) = ⟨(sg ss (lo + d + 1)).k, (sg ss (lo + d)).x, (sg ss (lo + d)).y, (sg ss (lo + d + 1)).u, (sg ss (lo + d + 1)).v, (sg ss (lo + d + 1)).w⟩ :: backs ss lo d := rfl
abbrev mvOf (sub : List Sg) (l : Nat) : Sg := ⟨1, (sg sub l).x, (sg sub l).y, 0, 0, 0⟩

set_option maxHeartbeats 6400000 in
set_option maxRecDepth 100000 in
theorem appendReversed_in (cl : Bool) (l B n : Nat) (v : Value) (xs sub : List Sg) (a : Addr) (m c : Nat) (w : World) (hm : m = sub.length) (hl : if cl then l + 2 = m else l + 1 = m) (hcl : ((sg sub (m - 1)).k == 4) = cl)
    (hs : Segs w (some a) sub) (ha : a.block < B) (hB : B ≤ w.heap.size) (hown : w.ownsRow B 25 6 v n (flat xs)) (hlim : n + m ≤ 50000) :
    Calls Try.prog 32 #[v, .slice (some a) m c] w fun e w' => ∃ v', e = .returned v' ∧ w'.ownsRow B 25 6 v' (n + m) (flat (xs ++ (mvOf sub l :: backs sub 0 l ++ (if cl then [⟨4, 0, 0, 0, 0, 0⟩] else [])))) ∧ Below B w w' := by
  have hl0 : l < m := by cases cl <;> simp at hl <;> omega
  have hl1 : (0:Int) ≤ (l:Int) := by omega
  have hl2 : (l:Int) < (m:Int) := by omega
  have HL := hid (segs_sg hs (show l < sub.length by omega)).2
  have HLK := hid (segs_sg hs (show m - 1 < sub.length by omega)).2
  obtain ⟨c0, -, -, -, -, -⟩ := HLK.out
  have HS := hid hs
  have HM := hid hm
  have HO := hid hown
  obtain ⟨v2, W2, hrun, hown2, hbel2⟩ := F2.append_seg (s := mvOf sub l) (ty := 35) (show B ≤ w.drew.heap.size from hB) (show w.drew.ownsRow B 25 6 v n (flat xs) from hown) (by omega)
  have HO2 := hid hown2
  have HBW := hid (show Below B w W2 from ((Below.refl B w).drew).trans hbel2)
  clear hs hown hown2 hbel2 hm
  generalize hmv : mvOf sub l = mv at hrun HO2 ⊢
  generalize hgk : (sg sub (m - 1)).k = k4 at hcl c0
  have hk4 := hcl
  clear HLK
  cases cl
  · simp only [Bool.false_eq_true, if_false] at hl ⊢
    go_enter Try.func32, Try.ntmps32
    go_upto_region 5 with fail
    rename_i Kn hKn
    refine F2.wp_region_fan 14 [12, 13] (F2.Ex (F2.w3 w.drew (w.drew.alloc (.cells (cel mv) 25)) W2)) (by kernel_rfl) (by kernel_rfl) (by kernel_rfl) rfl ?_
    simp only [List.take_succ_cons, List.take_zero, List.drop_succ_cons, List.drop_zero]
    have LB := F2.ex_below (B := B) (w := w) (a := w.drew) (b := w.drew.alloc (.cells (cel mv) 25)) (c := W2) ((Below.refl B w).drew) (((Below.refl B w).drew).alloc (by simpa using hB) _) HBW.out
    have LX := fun b w1 (h : F2.Ex (F2.w3 w.drew (w.drew.alloc (.cells (cel mv) 25)) W2) b w1) => ((HL.out.below (LB b w1 h) (by rw [add_block]; exact ha))).c1
    have LY := fun b w1 (h : F2.Ex (F2.w3 w.drew (w.drew.alloc (.cells (cel mv) 25)) W2) b w1) => ((HL.out.below (LB b w1 h) (by rw [add_block]; exact ha))).c2
    refine F2.WalksE.sound _ _ _ _ ?_ (((((Is.start _ (n := 68) rfl).pin 0 (v := v) rfl).pin 1 (v := .slice (some a) m c) rfl).pin 5 (v := .int .i64 l) (by refine congrArg (Value.int IntKind.i64) ?_; omega)).pin 6 (v := .bool false) rfl)
    generalize (fun i => Array.getD _ i undef) = g0
    refine F2.walks_with fun KQ hKQ => ?_
    (refine F2.walks_one fun K hK => ?_); refine F2.st_pure rfl rfl (fun _ => rfl) ?_; refine hK _ ?_; clear hK K
    (refine F2.walks_one fun K hK => ?_); refine F2.st_pure rfl rfl (fun _ => rfl) ?_; refine hK _ ?_; clear hK K
    (refine F2.walks_one fun K hK => ?_); refine F2.st_pure rfl rfl (fun _ => rfl) ?_; refine hK _ ?_; clear hK K
    (refine F2.walks_one fun K hK => ?_); refine F2.st_pure rfl rfl (fun _ => run_index rfl rfl hl1 hl2) ?_; refine hK _ ?_; clear hK K
    (refine F2.walks_one fun K hK => ?_); refine F2.st_pure rfl rfl (fun _ => run_fld (by omega) rfl) ?_; refine hK _ ?_; clear hK K
    (refine F2.walks_one fun K hK => ?_); refine F2.st_loadFld LX rfl rfl rfl ?_; refine hK _ ?_; clear hK K
    (refine F2.walks_one fun K hK => ?_); refine F2.st_pure rfl rfl (fun _ => rfl) ?_; refine hK _ ?_; clear hK K
    (refine F2.walks_one fun K hK => ?_); refine F2.st_pure rfl rfl (fun _ => rfl) ?_; refine hK _ ?_; clear hK K
    (refine F2.walks_one fun K hK => ?_); refine F2.st_pure rfl rfl (fun _ => run_index rfl rfl hl1 hl2) ?_; refine hK _ ?_; clear hK K
    (refine F2.walks_one fun K hK => ?_); refine F2.st_pure rfl rfl (fun _ => run_fld (by omega) rfl) ?_; refine hK _ ?_; clear hK K
    (refine F2.walks_one fun K hK => ?_); refine F2.st_loadFld LY rfl rfl rfl ?_; refine hK _ ?_; clear hK K
    (refine F2.walks_one fun K hK => ?_); refine F2.st_pure (v := seg mv) rfl rfl (fun _ => (F2.run_build3 (c0 := undef) rfl rfl rfl).trans (by rw [← hmv])) ?_; refine hK _ ?_; clear hK K
    (refine F2.walks_one fun K hK => ?_); refine F2.st_turn (v := .slice (some ⟨w.drew.heap.size, 0, none⟩) 1 1) 0 rfl (by decide) rfl (fun w2 h => ⟨_, by cases h; exact F2.run_lit (s := mv) rfl, rfl⟩) ?_; refine hK _ ?_; clear hK K
    (refine F2.walks_one fun K hK => ?_); refine F2.st_turn (v := v2) 1 rfl (by decide) rfl (fun w2 h => ⟨W2, by cases h; exact F2.run_append rfl rfl hrun, rfl⟩) ?_; refine hK _ ?_; clear hK K
    refine F2.walks_end fun a9 ha9 => hKQ _ fun w1 hC => ?_
    have e90 : a9.eval (Operand.tmp 34) = v2 := by rw [ha9.eval]; rfl
    refine tailB ?_
    refine hKn _ _ ?_
    rw [e90]
    obtain ⟨h9, hg9, k1, k5, k6, k0⟩ : ∃ g9, Is (a9.put (some 0) (v2)) 68 g9 ∧ g9 1 = .slice (some a) m c ∧ g9 5 = .int .i64 l ∧ g9 6 = .bool false ∧ g9 0 = v2 := ⟨_, ha9.put (d := 0) (by decide) _, rfl, rfl, rfl, rfl⟩
    have hw := hg9.whole
    rw [show ((List.range 68).map h9).toArray = #[h9 0, h9 1, h9 2, h9 3, h9 4, h9 5, h9 6, h9 7, h9 8, h9 9, h9 10, h9 11, h9 12, h9 13, h9 14, h9 15, h9 16, h9 17, h9 18, h9 19, h9 20, h9 21, h9 22, h9 23, h9 24, h9 25, h9 26, h9 27, h9 28, h9 29, h9 30, h9 31, h9 32, h9 33, h9 34, h9 35, h9 36, h9 37, h9 38, h9 39, h9 40, h9 41, h9 42, h9 43, h9 44, h9 45, h9 46, h9 47, h9 48, h9 49, h9 50, h9 51, h9 52, h9 53, h9 54, h9 55, h9 56, h9 57, h9 58, h9 59, h9 60, h9 61, h9 62, h9 63, h9 64, h9 65, h9 66, h9 67] from rfl] at hw
    rw [k1, k5, k6, k0] at hw
    rw [show (a9.put (some 0) _) = _ from hw]
    have HR := hid hC
    clear hw hC hg9 k1 k5 k6 k0 ha9 e90 hKQ KQ hKn LB LX LY hrun
    obtain rfl : w1 = W2 := HR.out
    clear HR
    go_wp2_with fail
    go_loopw [0, 7] (fun s0 s7 wr => ∃ (d k : Nat) (acc : List Sg), d ≤ l ∧ s7 = .int .i64 d ∧ k + d = n + 1 + l ∧ Hid (xs ++ (mv :: backs sub 0 l) = acc ++ backs sub 0 d) ∧ Hid (wr.ownsRow B 25 6 s0 k (flat acc)) ∧ Hid (Below B w wr)) (fun _ s7 _ => (intOf s7).toNat)
    case atStart => exact ⟨l, n + 1, xs ++ [mv], Nat.le_refl _, rfl, by omega, hid (by simp), HO2, HBW⟩
    case round =>
      obtain ⟨d0, k, acc, hd, rfl, hk, HE, HOJ, HBJ⟩ := hrel
      rcases Nat.eq_zero_or_pos d0 with hd0 | hd0
      · subst hd0
        go_wp2_with fail
        go_ret
        refine ⟨_, rfl, ?_, HBJ.out⟩
        have e1 : n + m = k := by omega
        have e2 : xs ++ mv :: (backs sub 0 l ++ []) = acc := by rw [List.append_nil]; exact HE.out.trans (List.append_nil _)
        rw [e1, e2]
        exact HOJ.out
      · obtain ⟨d, rfl⟩ : ∃ d, d0 = d + 1 := ⟨d0 - 1, by omega⟩
        have hd1 : (0:Int) ≤ (d:Int) := by omega
        have hd2 : (d:Int) < (m:Int) := by omega
        have HD := hid (segs_sg HS.out (show d < sub.length by rw [← HM.out]; omega)).2
        have HD1 := hid ((segs_sg HS.out (show d + 1 < sub.length by rw [← HM.out]; omega)).2.below HBJ.out (by rw [add_block]; exact ha))
        generalize hg : sg sub (d + 1) = g at HD1
        have HE1 := hid (show xs ++ (mv :: backs sub 0 l) = (acc ++ [⟨g.k, (sg sub d).x, (sg sub d).y, g.u, g.v, g.w⟩]) ++ backs sub 0 d by rw [HE.out, List.append_assoc, ← hg, backs_succ, Nat.zero_add]; rfl)
        clear hg
        obtain ⟨c0, c1, c2, c3, c4, c5⟩ := HD1.out
        obtain ⟨W0, hW1⟩ : ∃ W0, W0 = wr.alloc (.cells (cel g) 25) := ⟨_, rfl⟩
        obtain ⟨W1, hWd⟩ : ∃ W1, W1 = W0.drew := ⟨_, rfl⟩
        have HV := hid (show Var W1 wr.heap.size (cel g) 25 by rw [hWd, hW1]; exact Var.new _ _ _ _ rfl)
        have HN1 := hid (show Below wr.heap.size wr W1 by rw [hWd, hW1]; exact (below_alloc (Below.refl _ wr) _).drew)
        obtain ⟨W2, hW2⟩ : ∃ W2, W2 = W1.setCell ⟨wr.heap.size, 1, none⟩ (.int .i64 (sg sub d).x) := ⟨_, rfl⟩
        have HV2 := hid (show Var W2 wr.heap.size ((cel g).setIfInBounds 1 (.int .i64 (sg sub d).x)) 25 by rw [hW2]; exact HV.out.set _)
        have HN2 := hid (show Below wr.heap.size wr W2 by rw [hW2]; exact HN1.out.setCell (p := ⟨wr.heap.size, 1, none⟩) (Nat.le_refl _) _)
        obtain ⟨W3, hW3⟩ : ∃ W3, W3 = W2.setCell ⟨wr.heap.size, 2, none⟩ (.int .i64 (sg sub d).y) := ⟨_, rfl⟩
        have HV3 := hid (show Var W3 wr.heap.size (cel ⟨g.k, (sg sub d).x, (sg sub d).y, g.u, g.v, g.w⟩) 25 by rw [hW3]; exact HV2.out.set _)
        have HN3 := hid (show Below wr.heap.size wr W3 by rw [hW3]; exact HN2.out.setCell (p := ⟨wr.heap.size, 2, none⟩) (Nat.le_refl _) _)
        have HB3 := hid (HBJ.out.trans (HN3.out.mono (Nat.le_trans hB HBJ.out.size)))
        have HO3 := hid (own_next HOJ.out HN3.out)
        have HB1 := hid (HBJ.out.trans (HN1.out.mono (Nat.le_trans hB HBJ.out.size)))
        have HB2 := hid (HBJ.out.trans (HN2.out.mono (Nat.le_trans hB HBJ.out.size)))
        go_upto_region 10 with fail
        rw [← hW1]
        rename_i Kn hKn
        refine F2.wp_region_fan 15 [13] (F2.Ex (F2.w3 W1 W2 W2)) (by kernel_rfl) (by kernel_rfl) (by kernel_rfl) hWd.symm ?_
        simp only [List.take_succ_cons, List.take_zero, List.drop_succ_cons, List.drop_zero]
        have LB := F2.ex_below (B := B) (w := w) (a := W1) (b := W2) (c := W2) HB1.out HB2.out HB2.out
        have LX := fun b w1 (h : F2.Ex (F2.w3 W1 W2 W2) b w1) => ((HD.out.below (LB b w1 h) (by rw [add_block]; exact ha))).c1
        have LY := fun b w1 (h : F2.Ex (F2.w3 W1 W2 W2) b w1) => ((HD.out.below (LB b w1 h) (by rw [add_block]; exact ha))).c2
        refine F2.WalksE.sound _ _ _ _ ?_ (((((((((((((((((((((((((((((((((((((((((((Is.start _ (n := 68) rfl).pin 0 (v := u0) rfl).pin 1 (v := .slice (some a) m c) rfl).pin 2 (v := h9 2) rfl).pin 3 (v := h9 3) rfl).pin 4 (v := h9 4) rfl).pin 5 (v := .int .i64 l) rfl).pin 6 (v := .bool false) rfl).pin 7 (v := .int .i64 ((d + 1 : Nat) : Int)) rfl).pin 8 (v := .pointer (some ⟨wr.heap.size, 0, none⟩)) rfl).pin 9 (v := h9 9) rfl).pin 10 (v := h9 10) rfl).pin 11 (v := h9 11) rfl).pin 12 (v := h9 12) rfl).pin 13 (v := h9 13) rfl).pin 14 (v := h9 14) rfl).pin 15 (v := h9 15) rfl).pin 16 (v := h9 16) rfl).pin 17 (v := h9 17) rfl).pin 18 (v := h9 18) rfl).pin 19 (v := h9 19) rfl).pin 20 (v := h9 20) rfl).pin 21 (v := h9 21) rfl).pin 22 (v := h9 22) rfl).pin 23 (v := h9 23) rfl).pin 24 (v := h9 24) rfl).pin 25 (v := h9 25) rfl).pin 26 (v := h9 26) rfl).pin 27 (v := h9 27) rfl).pin 28 (v := h9 28) rfl).pin 29 (v := h9 29) rfl).pin 30 (v := h9 30) rfl).pin 31 (v := h9 31) rfl).pin 32 (v := h9 32) rfl).pin 33 (v := h9 33) rfl).pin 34 (v := h9 34) rfl).pin 35 (v := .int .i64 l) rfl).pin 62 (v := h9 62) rfl).pin 63 (v := h9 63) rfl).pin 64 (v := h9 64) rfl).pin 65 (v := h9 65) rfl).pin 66 (v := h9 66) rfl).pin 67 (v := h9 67) rfl)
        generalize (fun i => Array.getD _ i undef) = g0
        refine F2.walks_with fun KQ hKQ => ?_
        (refine F2.walks_one fun K hK => ?_); refine F2.st_pure rfl rfl (fun _ => rfl) ?_; refine hK _ ?_; clear hK K
        (refine F2.walks_one fun K hK => ?_); refine F2.st_pure rfl rfl (fun _ => rfl) ?_; refine hK _ ?_; clear hK K
        (refine F2.walks_one fun K hK => ?_); refine F2.st_pure (v := .int .i64 ((d : Nat) : Int)) rfl rfl (fun _ => (run_sub1 rfl rfl (by omega) (by omega)).trans (by congr 3; omega)) ?_; refine hK _ ?_; clear hK K
        (refine F2.walks_one fun K hK => ?_); refine F2.st_pure rfl rfl (fun _ => run_index rfl rfl hd1 hd2) ?_; refine hK _ ?_; clear hK K
        (refine F2.walks_one fun K hK => ?_); refine F2.st_pure rfl rfl (fun _ => run_fld (by omega) rfl) ?_; refine hK _ ?_; clear hK K
        (refine F2.walks_one fun K hK => ?_); refine F2.st_loadFld LX rfl rfl rfl ?_; refine hK _ ?_; clear hK K
        (refine F2.walks_one fun K hK => ?_); refine F2.st_pure rfl rfl (fun _ => rfl) ?_; refine hK _ ?_; clear hK K
        (refine F2.walks_one fun K hK => ?_); refine F2.st_pure rfl rfl (fun _ => rfl) ?_; refine hK _ ?_; clear hK K
        (refine F2.walks_one fun K hK => ?_); refine F2.st_pure (v := .int .i64 ((d : Nat) : Int)) rfl rfl (fun _ => (run_sub1 rfl rfl (by omega) (by omega)).trans (by congr 3; omega)) ?_; refine hK _ ?_; clear hK K
        (refine F2.walks_one fun K hK => ?_); refine F2.st_pure rfl rfl (fun _ => run_index rfl rfl hd1 hd2) ?_; refine hK _ ?_; clear hK K
        (refine F2.walks_one fun K hK => ?_); refine F2.st_pure rfl rfl (fun _ => run_fld (by omega) rfl) ?_; refine hK _ ?_; clear hK K
        (refine F2.walks_one fun K hK => ?_); refine F2.st_loadFld LY rfl rfl rfl ?_; refine hK _ ?_; clear hK K
        (refine F2.walks_one fun K hK => ?_); refine F2.st_pure rfl rfl (fun _ => run_fld (by omega) rfl) ?_; refine hK _ ?_; clear hK K
        (refine F2.walks_one fun K hK => ?_); refine F2.st_store 0 rfl (by decide) (fun w2 h => ⟨W2, by cases h; rw [hW2]; exact F2.run_storeInt (b := wr.heap.size) (j := 1) (old := .int .i64 g.x) rfl rfl HV.out rfl, rfl⟩) ?_; refine hK _ ?_; clear hK K
        (refine F2.walks_one fun K hK => ?_); refine F2.st_pure rfl rfl (fun _ => run_fld (by omega) rfl) ?_; refine hK _ ?_; clear hK K
        refine F2.walks_end fun a9 ha9 => hKQ _ fun w1 hC => ?_
        cases hC
        refine wpList_skip (w' := W3) rfl rfl (by rw [hW3]; exact F2.run_storeInt (b := wr.heap.size) (j := 2) (z := (sg sub d).y) (old := .int .i64 g.y) (by rw [ha9.eval]; rfl) (by rw [ha9.eval]; rfl) HV2.out rfl) ?_
        have hC : True := trivial
        refine hKn _ _ ?_
        obtain ⟨g9, hg9, k0, k1, k2, k3, k4, k5, k6, k7, k8, k9, k10, k11, k12, k13, k14, k15, k16, k17, k18, k19, k20, k21, k22, k23, k24, k25, k26, k27, k28, k29, k30, k31, k32, k33, k34, k35, k62, k63, k64, k65, k66, k67⟩ : ∃ g9, Is a9 68 g9 ∧ g9 0 = u0 ∧ g9 1 = .slice (some a) m c ∧ g9 2 = h9 2 ∧ g9 3 = h9 3 ∧ g9 4 = h9 4 ∧ g9 5 = .int .i64 l ∧ g9 6 = .bool false ∧ g9 7 = .int .i64 ((d + 1 : Nat) : Int) ∧ g9 8 = .pointer (some ⟨wr.heap.size, 0, none⟩) ∧ g9 9 = h9 9 ∧ g9 10 = h9 10 ∧ g9 11 = h9 11 ∧ g9 12 = h9 12 ∧ g9 13 = h9 13 ∧ g9 14 = h9 14 ∧ g9 15 = h9 15 ∧ g9 16 = h9 16 ∧ g9 17 = h9 17 ∧ g9 18 = h9 18 ∧ g9 19 = h9 19 ∧ g9 20 = h9 20 ∧ g9 21 = h9 21 ∧ g9 22 = h9 22 ∧ g9 23 = h9 23 ∧ g9 24 = h9 24 ∧ g9 25 = h9 25 ∧ g9 26 = h9 26 ∧ g9 27 = h9 27 ∧ g9 28 = h9 28 ∧ g9 29 = h9 29 ∧ g9 30 = h9 30 ∧ g9 31 = h9 31 ∧ g9 32 = h9 32 ∧ g9 33 = h9 33 ∧ g9 34 = h9 34 ∧ g9 35 = .int .i64 l ∧ g9 62 = h9 62 ∧ g9 63 = h9 63 ∧ g9 64 = h9 64 ∧ g9 65 = h9 65 ∧ g9 66 = h9 66 ∧ g9 67 = h9 67 := ⟨_, ha9, rfl, rfl, rfl, rfl, rfl, rfl, rfl, rfl, rfl, rfl, rfl, rfl, rfl, rfl, rfl, rfl, rfl, rfl, rfl, rfl, rfl, rfl, rfl, rfl, rfl, rfl, rfl, rfl, rfl, rfl, rfl, rfl, rfl, rfl, rfl, rfl, rfl, rfl, rfl, rfl, rfl, rfl⟩
        have hw := hg9.whole
        rw [show ((List.range 68).map g9).toArray = #[g9 0, g9 1, g9 2, g9 3, g9 4, g9 5, g9 6, g9 7, g9 8, g9 9, g9 10, g9 11, g9 12, g9 13, g9 14, g9 15, g9 16, g9 17, g9 18, g9 19, g9 20, g9 21, g9 22, g9 23, g9 24, g9 25, g9 26, g9 27, g9 28, g9 29, g9 30, g9 31, g9 32, g9 33, g9 34, g9 35, g9 36, g9 37, g9 38, g9 39, g9 40, g9 41, g9 42, g9 43, g9 44, g9 45, g9 46, g9 47, g9 48, g9 49, g9 50, g9 51, g9 52, g9 53, g9 54, g9 55, g9 56, g9 57, g9 58, g9 59, g9 60, g9 61, g9 62, g9 63, g9 64, g9 65, g9 66, g9 67] from rfl] at hw
        rw [k0, k1, k2, k3, k4, k5, k6, k7, k8, k9, k10, k11, k12, k13, k14, k15, k16, k17, k18, k19, k20, k21, k22, k23, k24, k25, k26, k27, k28, k29, k30, k31, k32, k33, k34, k35, k62, k63, k64, k65, k66, k67] at hw
        rw [show a9 = _ from hw]
        have HR := hid hC
        clear hw hC hg9 k0 k1 k2 k3 k4 k5 k6 k7 k8 k9 k10 k11 k12 k13 k14 k15 k16 k17 k18 k19 k20 k21 k22 k23 k24 k25 k26 k27 k28 k29 k30 k31 k32 k33 k34 k35 k62 k63 k64 k65 k66 k67 ha9  hKQ KQ hKn LB LX LY
        clear HR c0 c1 c2 c3 c4 c5 hW1 hWd hW2 hW3 HV HV2 HN1 HN2 HN3 HB1 HB2
        obtain ⟨p0, p1, p2, p3, p4, p5, pf⟩ := HV3.out.read6
        go_wp2_with (at_builtin; refine wpList_append_by rfl _ _ _ _ rfl _ _ rfl rfl (F2.append_seg (s := ⟨g.k, (sg sub d).x, (sg sub d).y, g.u, g.v, g.w⟩) (Nat.le_trans hB HB3.out.size) HO3.out (by omega)) ?_)
        intro v3 w3 h1 h2
        have H1 := hid h1
        have H2 := hid (HB3.out.trans h2)
        clear h1 h2 p0 p1 p2 p3 p4 p5 pf
        go_wp2_with fail
        go_roundw
        case rel => exact ⟨d, k + 1, _, by omega, by go_num, by omega, HE1, H1, H2⟩
        case measure => simp [intOf]
  · simp only [if_true] at hl ⊢
    go_enter Try.func32, Try.ntmps32
    go_upto_region 5 with fail
    rename_i Kn hKn
    refine F2.wp_region_fan 14 [12, 13] (F2.Ex (F2.w3 w.drew (w.drew.alloc (.cells (cel mv) 25)) W2)) (by kernel_rfl) (by kernel_rfl) (by kernel_rfl) rfl ?_
    simp only [List.take_succ_cons, List.take_zero, List.drop_succ_cons, List.drop_zero]
    have LB := F2.ex_below (B := B) (w := w) (a := w.drew) (b := w.drew.alloc (.cells (cel mv) 25)) (c := W2) ((Below.refl B w).drew) (((Below.refl B w).drew).alloc (by simpa using hB) _) HBW.out
    have LX := fun b w1 (h : F2.Ex (F2.w3 w.drew (w.drew.alloc (.cells (cel mv) 25)) W2) b w1) => ((HL.out.below (LB b w1 h) (by rw [add_block]; exact ha))).c1
    have LY := fun b w1 (h : F2.Ex (F2.w3 w.drew (w.drew.alloc (.cells (cel mv) 25)) W2) b w1) => ((HL.out.below (LB b w1 h) (by rw [add_block]; exact ha))).c2
    refine F2.WalksE.sound _ _ _ _ ?_ (((((Is.start _ (n := 68) rfl).pin 0 (v := v) rfl).pin 1 (v := .slice (some a) m c) rfl).pin 5 (v := .int .i64 l) (by refine congrArg (Value.int IntKind.i64) ?_; omega)).pin 6 (v := .bool true) rfl)
    generalize (fun i => Array.getD _ i undef) = g0
    refine F2.walks_with fun KQ hKQ => ?_
    (refine F2.walks_one fun K hK => ?_); refine F2.st_pure rfl rfl (fun _ => rfl) ?_; refine hK _ ?_; clear hK K
    (refine F2.walks_one fun K hK => ?_); refine F2.st_pure rfl rfl (fun _ => rfl) ?_; refine hK _ ?_; clear hK K
    (refine F2.walks_one fun K hK => ?_); refine F2.st_pure rfl rfl (fun _ => rfl) ?_; refine hK _ ?_; clear hK K
    (refine F2.walks_one fun K hK => ?_); refine F2.st_pure rfl rfl (fun _ => run_index rfl rfl hl1 hl2) ?_; refine hK _ ?_; clear hK K
    (refine F2.walks_one fun K hK => ?_); refine F2.st_pure rfl rfl (fun _ => run_fld (by omega) rfl) ?_; refine hK _ ?_; clear hK K
    (refine F2.walks_one fun K hK => ?_); refine F2.st_loadFld LX rfl rfl rfl ?_; refine hK _ ?_; clear hK K
    (refine F2.walks_one fun K hK => ?_); refine F2.st_pure rfl rfl (fun _ => rfl) ?_; refine hK _ ?_; clear hK K
    (refine F2.walks_one fun K hK => ?_); refine F2.st_pure rfl rfl (fun _ => rfl) ?_; refine hK _ ?_; clear hK K
    (refine F2.walks_one fun K hK => ?_); refine F2.st_pure rfl rfl (fun _ => run_index rfl rfl hl1 hl2) ?_; refine hK _ ?_; clear hK K
    (refine F2.walks_one fun K hK => ?_); refine F2.st_pure rfl rfl (fun _ => run_fld (by omega) rfl) ?_; refine hK _ ?_; clear hK K
    (refine F2.walks_one fun K hK => ?_); refine F2.st_loadFld LY rfl rfl rfl ?_; refine hK _ ?_; clear hK K
    (refine F2.walks_one fun K hK => ?_); refine F2.st_pure (v := seg mv) rfl rfl (fun _ => (F2.run_build3 (c0 := undef) rfl rfl rfl).trans (by rw [← hmv])) ?_; refine hK _ ?_; clear hK K
    (refine F2.walks_one fun K hK => ?_); refine F2.st_turn (v := .slice (some ⟨w.drew.heap.size, 0, none⟩) 1 1) 0 rfl (by decide) rfl (fun w2 h => ⟨_, by cases h; exact F2.run_lit (s := mv) rfl, rfl⟩) ?_; refine hK _ ?_; clear hK K
    (refine F2.walks_one fun K hK => ?_); refine F2.st_turn (v := v2) 1 rfl (by decide) rfl (fun w2 h => ⟨W2, by cases h; exact F2.run_append rfl rfl hrun, rfl⟩) ?_; refine hK _ ?_; clear hK K
    refine F2.walks_end fun a9 ha9 => hKQ _ fun w1 hC => ?_
    have e90 : a9.eval (Operand.tmp 34) = v2 := by rw [ha9.eval]; rfl
    refine tailB ?_
    refine hKn _ _ ?_
    rw [e90]
    obtain ⟨h9, hg9, k1, k5, k6, k0⟩ : ∃ g9, Is (a9.put (some 0) (v2)) 68 g9 ∧ g9 1 = .slice (some a) m c ∧ g9 5 = .int .i64 l ∧ g9 6 = .bool true ∧ g9 0 = v2 := ⟨_, ha9.put (d := 0) (by decide) _, rfl, rfl, rfl, rfl⟩
    have hw := hg9.whole
    rw [show ((List.range 68).map h9).toArray = #[h9 0, h9 1, h9 2, h9 3, h9 4, h9 5, h9 6, h9 7, h9 8, h9 9, h9 10, h9 11, h9 12, h9 13, h9 14, h9 15, h9 16, h9 17, h9 18, h9 19, h9 20, h9 21, h9 22, h9 23, h9 24, h9 25, h9 26, h9 27, h9 28, h9 29, h9 30, h9 31, h9 32, h9 33, h9 34, h9 35, h9 36, h9 37, h9 38, h9 39, h9 40, h9 41, h9 42, h9 43, h9 44, h9 45, h9 46, h9 47, h9 48, h9 49, h9 50, h9 51, h9 52, h9 53, h9 54, h9 55, h9 56, h9 57, h9 58, h9 59, h9 60, h9 61, h9 62, h9 63, h9 64, h9 65, h9 66, h9 67] from rfl] at hw
    rw [k1, k5, k6, k0] at hw
    rw [show (a9.put (some 0) _) = _ from hw]
    have HR := hid hC
    clear hw hC hg9 k1 k5 k6 k0 ha9 e90 hKQ KQ hKn LB LX LY hrun
    obtain rfl : w1 = W2 := HR.out
    clear HR
    go_wp2_with fail
    go_loopw [0, 7] (fun s0 s7 wr => ∃ (d k : Nat) (acc : List Sg), d ≤ l ∧ s7 = .int .i64 d ∧ k + d = n + 1 + l ∧ Hid (xs ++ (mv :: backs sub 0 l) = acc ++ backs sub 0 d) ∧ Hid (wr.ownsRow B 25 6 s0 k (flat acc)) ∧ Hid (Below B w wr)) (fun _ s7 _ => (intOf s7).toNat)
    case atStart => exact ⟨l, n + 1, xs ++ [mv], Nat.le_refl _, rfl, by omega, hid (by simp), HO2, HBW⟩
    case round =>
      obtain ⟨d0, k, acc, hd, rfl, hk, HE, HOJ, HBJ⟩ := hrel
      rcases Nat.eq_zero_or_pos d0 with hd0 | hd0
      · subst hd0
        go_wp2_with (at_builtin; refine wpList_append_by rfl _ _ _ _ rfl _ _ rfl rfl (F2.append_seg (s := ⟨4, 0, 0, 0, 0, 0⟩) (Nat.le_trans hB HBJ.out.size) HOJ.out (by omega)) ?_)
        intro v3 w3 h1 h2
        have H1 := hid h1
        have H2 := hid (HBJ.out.trans h2)
        clear h1 h2
        go_wp2_with fail
        go_ret
        refine ⟨_, rfl, ?_, H2.out⟩
        have e1 : n + m = k + 1 := by omega
        have e2 : xs ++ mv :: (backs sub 0 l ++ [⟨4, 0, 0, 0, 0, 0⟩]) = acc ++ [⟨4, 0, 0, 0, 0, 0⟩] := by rw [← List.cons_append, ← List.append_assoc, HE.out]; simp [backs]
        rw [e1, e2]
        exact H1.out
      · obtain ⟨d, rfl⟩ : ∃ d, d0 = d + 1 := ⟨d0 - 1, by omega⟩
        have hd1 : (0:Int) ≤ (d:Int) := by omega
        have hd2 : (d:Int) < (m:Int) := by omega
        have HD := hid (segs_sg HS.out (show d < sub.length by rw [← HM.out]; omega)).2
        have HD1 := hid ((segs_sg HS.out (show d + 1 < sub.length by rw [← HM.out]; omega)).2.below HBJ.out (by rw [add_block]; exact ha))
        generalize hg : sg sub (d + 1) = g at HD1
        have HE1 := hid (show xs ++ (mv :: backs sub 0 l) = (acc ++ [⟨g.k, (sg sub d).x, (sg sub d).y, g.u, g.v, g.w⟩]) ++ backs sub 0 d by rw [HE.out, List.append_assoc, ← hg, backs_succ, Nat.zero_add]; rfl)
        clear hg
        obtain ⟨c0, c1, c2, c3, c4, c5⟩ := HD1.out
        obtain ⟨W0, hW1⟩ : ∃ W0, W0 = wr.alloc (.cells (cel g) 25) := ⟨_, rfl⟩
        obtain ⟨W1, hWd⟩ : ∃ W1, W1 = W0.drew := ⟨_, rfl⟩
        have HV := hid (show Var W1 wr.heap.size (cel g) 25 by rw [hWd, hW1]; exact Var.new _ _ _ _ rfl)
        have HN1 := hid (show Below wr.heap.size wr W1 by rw [hWd, hW1]; exact (below_alloc (Below.refl _ wr) _).drew)
        obtain ⟨W2, hW2⟩ : ∃ W2, W2 = W1.setCell ⟨wr.heap.size, 1, none⟩ (.int .i64 (sg sub d).x) := ⟨_, rfl⟩
        have HV2 := hid (show Var W2 wr.heap.size ((cel g).setIfInBounds 1 (.int .i64 (sg sub d).x)) 25 by rw [hW2]; exact HV.out.set _)
        have HN2 := hid (show Below wr.heap.size wr W2 by rw [hW2]; exact HN1.out.setCell (p := ⟨wr.heap.size, 1, none⟩) (Nat.le_refl _) _)
        obtain ⟨W3, hW3⟩ : ∃ W3, W3 = W2.setCell ⟨wr.heap.size, 2, none⟩ (.int .i64 (sg sub d).y) := ⟨_, rfl⟩
        have HV3 := hid (show Var W3 wr.heap.size (cel ⟨g.k, (sg sub d).x, (sg sub d).y, g.u, g.v, g.w⟩) 25 by rw [hW3]; exact HV2.out.set _)
        have HN3 := hid (show Below wr.heap.size wr W3 by rw [hW3]; exact HN2.out.setCell (p := ⟨wr.heap.size, 2, none⟩) (Nat.le_refl _) _)
        have HB3 := hid (HBJ.out.trans (HN3.out.mono (Nat.le_trans hB HBJ.out.size)))
        have HO3 := hid (own_next HOJ.out HN3.out)
        have HB1 := hid (HBJ.out.trans (HN1.out.mono (Nat.le_trans hB HBJ.out.size)))
        have HB2 := hid (HBJ.out.trans (HN2.out.mono (Nat.le_trans hB HBJ.out.size)))
        go_upto_region 10 with fail
        rw [← hW1]
        rename_i Kn hKn
        refine F2.wp_region_fan 15 [13] (F2.Ex (F2.w3 W1 W2 W2)) (by kernel_rfl) (by kernel_rfl) (by kernel_rfl) hWd.symm ?_
        simp only [List.take_succ_cons, List.take_zero, List.drop_succ_cons, List.drop_zero]
        have LB := F2.ex_below (B := B) (w := w) (a := W1) (b := W2) (c := W2) HB1.out HB2.out HB2.out
        have LX := fun b w1 (h : F2.Ex (F2.w3 W1 W2 W2) b w1) => ((HD.out.below (LB b w1 h) (by rw [add_block]; exact ha))).c1
        have LY := fun b w1 (h : F2.Ex (F2.w3 W1 W2 W2) b w1) => ((HD.out.below (LB b w1 h) (by rw [add_block]; exact ha))).c2
        refine F2.WalksE.sound _ _ _ _ ?_ (((((((((((((((((((((((((((((((((((((((((((Is.start _ (n := 68) rfl).pin 0 (v := u0) rfl).pin 1 (v := .slice (some a) m c) rfl).pin 2 (v := h9 2) rfl).pin 3 (v := h9 3) rfl).pin 4 (v := h9 4) rfl).pin 5 (v := .int .i64 l) rfl).pin 6 (v := .bool true) rfl).pin 7 (v := .int .i64 ((d + 1 : Nat) : Int)) rfl).pin 8 (v := .pointer (some ⟨wr.heap.size, 0, none⟩)) rfl).pin 9 (v := h9 9) rfl).pin 10 (v := h9 10) rfl).pin 11 (v := h9 11) rfl).pin 12 (v := h9 12) rfl).pin 13 (v := h9 13) rfl).pin 14 (v := h9 14) rfl).pin 15 (v := h9 15) rfl).pin 16 (v := h9 16) rfl).pin 17 (v := h9 17) rfl).pin 18 (v := h9 18) rfl).pin 19 (v := h9 19) rfl).pin 20 (v := h9 20) rfl).pin 21 (v := h9 21) rfl).pin 22 (v := h9 22) rfl).pin 23 (v := h9 23) rfl).pin 24 (v := h9 24) rfl).pin 25 (v := h9 25) rfl).pin 26 (v := h9 26) rfl).pin 27 (v := h9 27) rfl).pin 28 (v := h9 28) rfl).pin 29 (v := h9 29) rfl).pin 30 (v := h9 30) rfl).pin 31 (v := h9 31) rfl).pin 32 (v := h9 32) rfl).pin 33 (v := h9 33) rfl).pin 34 (v := h9 34) rfl).pin 35 (v := .int .i64 l) rfl).pin 62 (v := h9 62) rfl).pin 63 (v := h9 63) rfl).pin 64 (v := h9 64) rfl).pin 65 (v := h9 65) rfl).pin 66 (v := h9 66) rfl).pin 67 (v := h9 67) rfl)
        generalize (fun i => Array.getD _ i undef) = g0
        refine F2.walks_with fun KQ hKQ => ?_
        (refine F2.walks_one fun K hK => ?_); refine F2.st_pure rfl rfl (fun _ => rfl) ?_; refine hK _ ?_; clear hK K
        (refine F2.walks_one fun K hK => ?_); refine F2.st_pure rfl rfl (fun _ => rfl) ?_; refine hK _ ?_; clear hK K
        (refine F2.walks_one fun K hK => ?_); refine F2.st_pure (v := .int .i64 ((d : Nat) : Int)) rfl rfl (fun _ => (run_sub1 rfl rfl (by omega) (by omega)).trans (by congr 3; omega)) ?_; refine hK _ ?_; clear hK K
        (refine F2.walks_one fun K hK => ?_); refine F2.st_pure rfl rfl (fun _ => run_index rfl rfl hd1 hd2) ?_; refine hK _ ?_; clear hK K
        (refine F2.walks_one fun K hK => ?_); refine F2.st_pure rfl rfl (fun _ => run_fld (by omega) rfl) ?_; refine hK _ ?_; clear hK K
        (refine F2.walks_one fun K hK => ?_); refine F2.st_loadFld LX rfl rfl rfl ?_; refine hK _ ?_; clear hK K
        (refine F2.walks_one fun K hK => ?_); refine F2.st_pure rfl rfl (fun _ => rfl) ?_; refine hK _ ?_; clear hK K
        (refine F2.walks_one fun K hK => ?_); refine F2.st_pure rfl rfl (fun _ => rfl) ?_; refine hK _ ?_; clear hK K
        (refine F2.walks_one fun K hK => ?_); refine F2.st_pure (v := .int .i64 ((d : Nat) : Int)) rfl rfl (fun _ => (run_sub1 rfl rfl (by omega) (by omega)).trans (by congr 3; omega)) ?_; refine hK _ ?_; clear hK K
        (refine F2.walks_one fun K hK => ?_); refine F2.st_pure rfl rfl (fun _ => run_index rfl rfl hd1 hd2) ?_; refine hK _ ?_; clear hK K
        (refine F2.walks_one fun K hK => ?_); refine F2.st_pure rfl rfl (fun _ => run_fld (by omega) rfl) ?_; refine hK _ ?_; clear hK K
        (refine F2.walks_one fun K hK => ?_); refine F2.st_loadFld LY rfl rfl rfl ?_; refine hK _ ?_; clear hK K
        (refine F2.walks_one fun K hK => ?_); refine F2.st_pure rfl rfl (fun _ => run_fld (by omega) rfl) ?_; refine hK _ ?_; clear hK K
        (refine F2.walks_one fun K hK => ?_); refine F2.st_store 0 rfl (by decide) (fun w2 h => ⟨W2, by cases h; rw [hW2]; exact F2.run_storeInt (b := wr.heap.size) (j := 1) (old := .int .i64 g.x) rfl rfl HV.out rfl, rfl⟩) ?_; refine hK _ ?_; clear hK K
        (refine F2.walks_one fun K hK => ?_); refine F2.st_pure rfl rfl (fun _ => run_fld (by omega) rfl) ?_; refine hK _ ?_; clear hK K
        refine F2.walks_end fun a9 ha9 => hKQ _ fun w1 hC => ?_
        cases hC
        refine wpList_skip (w' := W3) rfl rfl (by rw [hW3]; exact F2.run_storeInt (b := wr.heap.size) (j := 2) (z := (sg sub d).y) (old := .int .i64 g.y) (by rw [ha9.eval]; rfl) (by rw [ha9.eval]; rfl) HV2.out rfl) ?_
        have hC : True := trivial
        refine hKn _ _ ?_
        obtain ⟨g9, hg9, k0, k1, k2, k3, k4, k5, k6, k7, k8, k9, k10, k11, k12, k13, k14, k15, k16, k17, k18, k19, k20, k21, k22, k23, k24, k25, k26, k27, k28, k29, k30, k31, k32, k33, k34, k35, k62, k63, k64, k65, k66, k67⟩ : ∃ g9, Is a9 68 g9 ∧ g9 0 = u0 ∧ g9 1 = .slice (some a) m c ∧ g9 2 = h9 2 ∧ g9 3 = h9 3 ∧ g9 4 = h9 4 ∧ g9 5 = .int .i64 l ∧ g9 6 = .bool true ∧ g9 7 = .int .i64 ((d + 1 : Nat) : Int) ∧ g9 8 = .pointer (some ⟨wr.heap.size, 0, none⟩) ∧ g9 9 = h9 9 ∧ g9 10 = h9 10 ∧ g9 11 = h9 11 ∧ g9 12 = h9 12 ∧ g9 13 = h9 13 ∧ g9 14 = h9 14 ∧ g9 15 = h9 15 ∧ g9 16 = h9 16 ∧ g9 17 = h9 17 ∧ g9 18 = h9 18 ∧ g9 19 = h9 19 ∧ g9 20 = h9 20 ∧ g9 21 = h9 21 ∧ g9 22 = h9 22 ∧ g9 23 = h9 23 ∧ g9 24 = h9 24 ∧ g9 25 = h9 25 ∧ g9 26 = h9 26 ∧ g9 27 = h9 27 ∧ g9 28 = h9 28 ∧ g9 29 = h9 29 ∧ g9 30 = h9 30 ∧ g9 31 = h9 31 ∧ g9 32 = h9 32 ∧ g9 33 = h9 33 ∧ g9 34 = h9 34 ∧ g9 35 = .int .i64 l ∧ g9 62 = h9 62 ∧ g9 63 = h9 63 ∧ g9 64 = h9 64 ∧ g9 65 = h9 65 ∧ g9 66 = h9 66 ∧ g9 67 = h9 67 := ⟨_, ha9, rfl, rfl, rfl, rfl, rfl, rfl, rfl, rfl, rfl, rfl, rfl, rfl, rfl, rfl, rfl, rfl, rfl, rfl, rfl, rfl, rfl, rfl, rfl, rfl, rfl, rfl, rfl, rfl, rfl, rfl, rfl, rfl, rfl, rfl, rfl, rfl, rfl, rfl, rfl, rfl, rfl, rfl⟩
        have hw := hg9.whole
        rw [show ((List.range 68).map g9).toArray = #[g9 0, g9 1, g9 2, g9 3, g9 4, g9 5, g9 6, g9 7, g9 8, g9 9, g9 10, g9 11, g9 12, g9 13, g9 14, g9 15, g9 16, g9 17, g9 18, g9 19, g9 20, g9 21, g9 22, g9 23, g9 24, g9 25, g9 26, g9 27, g9 28, g9 29, g9 30, g9 31, g9 32, g9 33, g9 34, g9 35, g9 36, g9 37, g9 38, g9 39, g9 40, g9 41, g9 42, g9 43, g9 44, g9 45, g9 46, g9 47, g9 48, g9 49, g9 50, g9 51, g9 52, g9 53, g9 54, g9 55, g9 56, g9 57, g9 58, g9 59, g9 60, g9 61, g9 62, g9 63, g9 64, g9 65, g9 66, g9 67] from rfl] at hw
        rw [k0, k1, k2, k3, k4, k5, k6, k7, k8, k9, k10, k11, k12, k13, k14, k15, k16, k17, k18, k19, k20, k21, k22, k23, k24, k25, k26, k27, k28, k29, k30, k31, k32, k33, k34, k35, k62, k63, k64, k65, k66, k67] at hw
        rw [show a9 = _ from hw]
        have HR := hid hC
        clear hw hC hg9 k0 k1 k2 k3 k4 k5 k6 k7 k8 k9 k10 k11 k12 k13 k14 k15 k16 k17 k18 k19 k20 k21 k22 k23 k24 k25 k26 k27 k28 k29 k30 k31 k32 k33 k34 k35 k62 k63 k64 k65 k66 k67 ha9  hKQ KQ hKn LB LX LY
        clear HR c0 c1 c2 c3 c4 c5 hW1 hWd hW2 hW3 HV HV2 HN1 HN2 HN3 HB1 HB2
        obtain ⟨p0, p1, p2, p3, p4, p5, pf⟩ := HV3.out.read6
        go_wp2_with (at_builtin; refine wpList_append_by rfl _ _ _ _ rfl _ _ rfl rfl (F2.append_seg (s := ⟨g.k, (sg sub d).x, (sg sub d).y, g.u, g.v, g.w⟩) (Nat.le_trans hB HB3.out.size) HO3.out (by omega)) ?_)
        intro v3 w3 h1 h2
        have H1 := hid h1
        have H2 := hid (HB3.out.trans h2)
        clear h1 h2 p0 p1 p2 p3 p4 p5 pf
        go_wp2_with fail
        go_roundw
        case rel => exact ⟨d, k + 1, _, by omega, by go_num, by omega, HE1, H1, H2⟩
        case measure => simp [intOf]

theorem appendReversed_any (B n : Nat) (v : Value) (xs sub : List Sg) (a : Addr) (m c : Nat) (w : World) (hm : m = sub.length) (hpos : 0 < m) (hcl : (sg sub (m - 1)).k = 4 → 2 ≤ m)
    (hs : Segs w (some a) sub) (ha : a.block < B) (hB : B ≤ w.heap.size) (hown : w.ownsRow B 25 6 v n (flat xs)) (hlim : n + m ≤ 50000) :
    Calls Try.prog 32 #[v, .slice (some a) m c] w fun e w' => ∃ v', e = .returned v' ∧ w'.ownsRow B 25 6 v' (n + m) (flat (xs ++ revSub sub 0 m)) ∧ Below B w w' := by
  unfold revSub lastOf
  by_cases h : (sg sub (m - 1)).k = 4
  · rw [if_pos h, if_pos h]
    have := hcl h
    have h1 := appendReversed_in true (m - 2) B n v xs sub a m c w hm (by simp; omega) (by simp [h]) hs ha hB hown hlim
    simpa using h1
  · rw [if_neg h, if_neg h]
    have h1 := appendReversed_in false (m - 1) B n v xs sub a m c w hm (by simp; omega) (by simp [h]) hs ha hB hown hlim
    simpa using h1
theorem sg_sub {ss : List Sg} {i n j : Nat} (hj : j < n) : sg ((ss.drop i).take n) j = sg ss (i + j) := by
  unfold sg
  rw [List.getD_eq_getElem?_getD, List.getD_eq_getElem?_getD, List.getElem?_take, if_pos hj, List.getElem?_drop]
theorem backs_sub {ss : List Sg} {i n : Nat} : ∀ {d : Nat}, d < n → backs ((ss.drop i).take n) 0 d = backs ss i d
  | 0, _ => rfl
  | d + 1, h => by
    rw [backs_succ, backs_succ, Nat.zero_add, sg_sub h, sg_sub (show d < n by omega), backs_sub (show d < n by omega)]
    rfl
theorem revSub_sub {ss : List Sg} {i n : Nat} (h : 0 < n) (hc : (sg ss (i + n - 1)).k = 4 → 2 ≤ n) : revSub ((ss.drop i).take n) 0 n = revSub ss i (i + n) := by
  unfold revSub lastOf
  rw [sg_sub (show n - 1 < n by omega), show i + (n - 1) = i + n - 1 by omega]
  by_cases e : (sg ss (i + n - 1)).k = 4
  · have h2 := hc e
    rw [if_pos e, if_pos e, if_pos e, sg_sub (show n - 2 < n by omega), show i + (n - 2) = i + n - 2 by omega, backs_sub (show n - 2 - 0 < n by omega), show i + n - 2 - i = n - 2 - 0 by omega]
  · rw [if_neg e, if_neg e, if_neg e, sg_sub (show n - 1 < n by omega), show i + (n - 1) = i + n - 1 by omega, backs_sub (show n - 1 - 0 < n by omega), show i + n - 1 - i = n - 1 - 0 by omega]

theorem takeWhile_stop (p : Sg → Bool) : ∀ (l : List Sg), (l.takeWhile p).length < l.length → p (l.getD (l.takeWhile p).length default) = false
  | [], h => by simp at h
  | s :: r, h => by
    by_cases hs : p s = true
    · rw [List.takeWhile_cons, if_pos hs] at h ⊢
      have := takeWhile_stop p r (by simpa using h)
      simpa using this
    · rw [List.takeWhile_cons, if_neg hs]
      simpa using hs
theorem ends_move (ss : List Sg) (i : Nat) (h : ends ss i < ss.length) : (sg ss (ends ss i)).k = 1 := by
  have h1 : ((ss.drop (i + 1)).takeWhile fun s => decide (s.k ≠ 1)).length < (ss.drop (i + 1)).length := by
    rw [List.length_drop]; unfold ends at h; omega
  have h2 := takeWhile_stop _ _ h1
  have e : (ss.drop (i + 1)).getD ((ss.drop (i + 1)).takeWhile fun s => decide (s.k ≠ 1)).length default = sg ss (ends ss i) := by
    unfold sg ends
    rw [List.getD_eq_getElem?_getD, List.getD_eq_getElem?_getD, List.getElem?_drop]
  rw [e] at h2
  simpa using h2

end Go.Proofs.Ytcdedefhofkbhaa
