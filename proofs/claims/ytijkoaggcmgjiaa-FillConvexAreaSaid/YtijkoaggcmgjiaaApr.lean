/- fill.isFilled and fill.appendRow (written by r9_apr.py). -/
import Derived.Test.YtijkoaggcmgjiaaFrw
import Derived.Test.YtijkoaggcmgjiaaRwn
import Derived.Test.YtijkoaggcmgjiaaPass
namespace Go.Proofs.Ytijkoaggcmgjiaa
open Go Go.RowKit
set_option linter.unusedVariables false
set_option linter.unusedSimpArgs false

theorem isFilled_any (n rule : Int) (odd : Bool) (w : World) (h : rule = if odd then 1 else 0) : Calls Try.prog 89 #[.int .i64 n, .int .i64 rule] w fun e w' => e = .returned (.bool (isF odd n)) ∧ w = w' := by
  cases odd with
  | true =>
    have h' : rule = 1 := h
    subst h'
    clear h
    have t1 := Int.lt_tmod_of_pos n (show (0 : Int) < 2 by omega)
    have t2 := Int.tmod_lt_of_pos n (show (0 : Int) < 2 by omega)
    by_cases hz : n.tmod 2 = 0
    · rw [show isF true n = false by unfold isF; simp [hz]]
      go_enter Try.func89, Try.ntmps89
      go_wp2
      go_ret
      exact ⟨rfl, rfl⟩
    · have hz' : (n.tmod 2 != 0) = true := by simpa using hz
      rw [show isF true n = true from hz']
      go_enter Try.func89, Try.ntmps89
      go_wp2
      go_ret
      exact ⟨rfl, rfl⟩
  | false =>
    have h' : rule = 0 := h
    subst h'
    clear h
    by_cases hz : n = 0
    · subst hz
      rw [show isF false 0 = false from rfl]
      go_enter Try.func89, Try.ntmps89
      go_wp2
      go_ret
      exact ⟨rfl, rfl⟩
    · have hz' : (n != 0) = true := by simpa using hz
      rw [show isF false n = true from hz']
      go_enter Try.func89, Try.ntmps89
      go_wp2
      go_ret
      exact ⟨rfl, rfl⟩
theorem enters_isFilled : Enters Try.prog 89 := enters_of Try.func89 (by kernel_rfl) rfl
section
variable {ρ : Operand → Value} {dst : Option Tmp} {ty : TypeId} {pos : String} {af : Array Edge} {x y : Operand} {w : World} {gd : Option (Nat × Bool)}
theorem run_lenT {A : Option Addr} {n c : Nat} (hx : ρ x = .slice A n c) :
    (execOp ρ { dst := dst, op := .call { callee := .builtin .len, args := #[x], argTypes := #[74] }, type := ty, pos := pos, after := af, guard := gd }).run Try.prog w = .ok (.value (.int .i64 (n : Int))) w := by
  go_simp
theorem run_lssT {i j : Int} (hx : ρ x = .int .i64 i) (hy : ρ y = .int .i64 j) (h : i < j) :
    (execOp ρ { dst := dst, op := .binOp .lss 3 x y 3, type := ty, pos := pos, after := af, guard := gd }).run Try.prog w = .ok (.value (.bool true)) w := by
  go_simp
theorem run_lssF {i j : Int} (hx : ρ x = .int .i64 i) (hy : ρ y = .int .i64 j) (h : ¬ i < j) :
    (execOp ρ { dst := dst, op := .binOp .lss 3 x y 3, type := ty, pos := pos, after := af, guard := gd }).run Try.prog w = .ok (.value (.bool false)) w := by
  go_simp
theorem run_eqIT {i j : Int} (hx : ρ x = .int .i64 i) (hy : ρ y = .int .i64 j) (h : i = j) :
    (execOp ρ { dst := dst, op := .binOp .eql 3 x y 3, type := ty, pos := pos, after := af, guard := gd }).run Try.prog w = .ok (.value (.bool true)) w := by
  rw [run_eqInt hx hy, decide_eq_true h]
theorem run_eqIF {i j : Int} (hx : ρ x = .int .i64 i) (hy : ρ y = .int .i64 j) (h : i ≠ j) :
    (execOp ρ { dst := dst, op := .binOp .eql 3 x y 3, type := ty, pos := pos, after := af, guard := gd }).run Try.prog w = .ok (.value (.bool false)) w := by
  rw [run_eqInt hx hy, decide_eq_false h]
theorem run_eqB {b c : Bool} (hx : ρ x = .bool b) (hy : ρ y = .bool c) :
    (execOp ρ { dst := dst, op := .binOp .eql 4 x y 4, type := ty, pos := pos, after := af, guard := gd }).run Try.prog w = .ok (.value (.bool (b == c))) w := by
  go_simp
theorem run_idxT {a : Addr} {j n c : Nat} (hx : ρ x = .slice (some a) n c) (hy : ρ y = .int .i64 (j : Int)) (hj : j < n) :
    (execOp ρ { dst := dst, op := .indexAddr 74 x y, type := ty, pos := pos, after := af, guard := gd }).run Try.prog w = .ok (.value (.pointer (some (a.add (j * 2))))) w := by
  have h1 : (j : Int) < (n : Int) := by omega
  have h0 : (0 : Int) ≤ (j : Int) := Int.natCast_nonneg _
  go_simp
theorem run_fldT0 {a : Addr} (hx : ρ x = .pointer (some a)) :
    (execOp ρ { dst := dst, op := .fieldAddr 124 x 0, type := ty, pos := pos, after := af, guard := gd }).run Try.prog w = .ok (.value (.pointer (some a))) w := by
  go_simp
end
theorem RowT.gr {W w : World} {A : Option Addr} {xs : List Stp} {v v' : Value} (h : RowT W A xs) (hg : Gr v v' W w) (hne : ∀ a, A = some a → v.ownBlock ≠ some a.block) : RowT w A xs := fun hn => by
  obtain ⟨a, rfl, hl, hr⟩ := h hn
  have hk : ∀ p : Addr, p.block = a.block → w.cell? p = W.cell? p := fun p hp => World.cell?_of_block (by rw [hp]; exact hg.block hl (hne a rfl))
  refine ⟨a, rfl, Nat.lt_of_lt_of_le hl hg.size, fun i s hi => ?_⟩
  obtain ⟨c0, c1⟩ := hr i s hi
  have hk2 : ∀ j, w.cell? ⟨(a.add (i * 2)).block, (a.add (i * 2)).off + j, none⟩ = W.cell? ⟨(a.add (i * 2)).block, (a.add (i * 2)).off + j, none⟩ := fun j => hk ⟨_, _, _⟩ (add_block a (i * 2))
  exact ⟨(hk _ (add_block _ _)).trans c0, (hk2 1).trans c1⟩
theorem wpList_append_R {ops : Array Oper} {rest : List Oper} {o : Oper} {a : Act} {Q : Exit → Act → World → Prop} {w : World} {B : Nat} {v : Value} {xs : List Rn} {s : Rn} (hgd : o.guard = none) (y x : Operand)
    (ho : o.op = .call { callee := .builtin .append, args := #[y, x], argTypes := #[25, 25] }) (hB : B ≤ w.heap.size) (hs : a.eval y = v) (hx : a.eval x = .slice (some ⟨w.heap.size, 0, none⟩) 1 1)
    (hown : OwnR w B v xs) (hl : xs.length ≤ 5000000000)
    (k : ∀ v' w', OwnR w' B v' (xs ++ [s]) → Gr v v' w w' → wpList Try.prog ops Q rest (a.put o.dst v') w') : wpList Try.prog ops Q (o :: rest) a (w.alloc (.cells (cel s) 47)) := by
  obtain ⟨v', w', h1, h2, h3⟩ := append_rn (ty := o.type) (s := s) hB hown hl
  refine wpList_plain hgd fun K hK' => ?_
  simp [Oper.wp, execOp, ho, resolve, invoke, builtin, hs, hx, h1, Result.andThen]
  exact hK' _ _ (k v' w' h2 h3)

set_option maxRecDepth 100000 in
set_option maxHeartbeats 8000000 in
theorem appendRow_any (v : Value) (A : Option Addr) (n c : Nat) (qs : List Stp) (y rule : Int) (odd : Bool) (acc : List Rn) (B : Nat) (w : World) (hB : B ≤ w.heap.size) (ho : OwnR w B v acc) (hl : acc.length ≤ 2000000000) (hn : n = qs.length) (hm : n ≤ 1000000) (hr : RowT w A qs)
    (hne : ∀ a, A = some a → v.ownBlock ≠ some a.block) (hd : ∀ s ∈ qs, -1 ≤ s.d ∧ s.d ≤ 1) (hru : rule = if odd then 1 else 0) :
    Calls Try.prog 47 #[v, .slice A n c, .int .i64 y, .int .i64 rule] w fun e w' => ∃ v', e = .returned v' ∧ OwnR w' B v' (rowGo odd y false 0 acc qs) ∧ Gr v v' w w' := by
  have HB := hid hB
  have HO := hid ho
  have HN := hid hn
  have HR := hid hr
  have HNE := hid hne
  have HD := hid hd
  have HRU := hid hru
  clear hB ho hn hr hne hd hru
  go_enter Try.func47, Try.ntmps47
  go_wp2_with fail
  go_loopw [15, 9, 10, 0] (fun s15 s9 s10 s0 wr => ∃ (j : Nat) (wv : Int) (ins : Bool) (v' : Value) (acc' : List Rn), j ≤ n ∧ s15 = .int .i64 j ∧ s9 = .int .i64 wv ∧ s10 = .bool ins ∧ s0 = v' ∧ Hid (rowGo odd y false 0 acc qs = rowGo odd y ins wv acc' (qs.drop j)) ∧ -(j : Int) ≤ wv ∧ wv ≤ (j : Int) ∧ Hid (ins = true → acc' ≠ []) ∧ Hid (acc'.length ≤ acc.length + j) ∧ Hid (OwnR wr B v' acc') ∧ Hid (Gr v v' w wr)) (fun s15 _ _ _ _ => n - (intOf s15).toNat)
  case atStart => exact ⟨0, 0, false, v, acc, Nat.zero_le _, rfl, rfl, rfl, rfl, hid rfl, by omega, by omega, hid (fun h => by cases h), hid (Nat.le_refl _), hid HO.out, hid (Gr.refl _ _)⟩
  case round =>
    obtain ⟨wo, rfl⟩ : ∃ wo, wo = wr := ⟨_, rfl⟩
    obtain ⟨j, wv, ins, v', acc', hj, rfl, rfl, rfl, rfl, HGR, hw1, hw2, HNE2, HAL, HO2, HG⟩ := hrel
    by_cases hlt : j < n
    · have hjl : j < qs.length := by rw [← HN.out]; exact hlt
      have HRW := hid (HR.out.gr HG.out HNE.out)
      obtain ⟨a, rfl, hal, hsa⟩ := HRW.out.at_ hjl
      rw [List.drop_eq_getElem_cons hjl] at HGR
      have hds := HD.out qs[j] (List.getElem_mem hjl)
      have HNX := hid (show ∀ h : j + 1 < qs.length, qs.drop (j + 1) = qs[j + 1] :: qs.drop (j + 2) from fun h => List.drop_eq_getElem_cons h)
      generalize qs[j] = s at hsa hds HGR
      obtain ⟨d1, d2⟩ := hds
      obtain ⟨c0, c1⟩ := hsa
      have HV := hid (Var.new wo (tcel s) 124 _ rfl)
      have HB1 := hid ((Below.refl _ wo).alloc (Nat.le_refl _) (.cells (tcel s) 124))
      have HO3 := hid (HO2.out.next HB1.out)
      have HG3 := hid (HG.out.next HB1.out)
      have hwz : IntKind.i64.wrap (wv + s.d) = wv + s.d := IntWalk.i64_in _ (by omega)
      clear HG HO2
      go_upto_region 6 with fail
      rename_i Kn hKn
      clear c0 c1 hal
      obtain ⟨X3, hX3⟩ : ∃ X3, X3 = wo.alloc (.cells (tcel s) 124) := ⟨_, rfl⟩
      rw [← hX3] at HV HB1 HO3 HG3
      rw [← hX3]
      clear hX3
      refine wpIn_wide.1 (grow_round (F := Fence.wide) (n := 0) (by kernel_rfl) (by kernel_rfl) (by kernel_rfl) ?_)
      by_cases hnx : j + 1 < n
      · have hjl2 : j + 1 < qs.length := by rw [← HN.out]; exact hnx
        obtain ⟨a', ha', hal, hsa⟩ := HRW.out.at_ hjl2
        obtain rfl := Option.some.inj ha'
        have HNX2 := hid (HNX.out hjl2)
        have HQ0 := hid ((HB1.out.cell (p := a.add ((j + 1) * 2)) (by rw [add_block]; exact hal)).trans hsa.c0)
        have HQL := hid (show (a.add ((j + 1) * 2)).block < X3.heap.size by rw [add_block]; exact Nat.lt_of_lt_of_le hal HB1.out.size)
        generalize qs[j + 1] = q at HQ0 HNX2
        clear ha' hal hsa HNX
        refine gq_val (v := .int .i64 (j : Int)) (fun _ => trivial) rfl (fun w' hw' => rfl) ?_
        simp only [Act.put, List.setIfInBounds_toArray, List.set_cons_succ, List.set_cons_zero]
        refine gq_val (v := .int .i64 ((j + 1 : Nat) : Int)) (fun _ => trivial) rfl (fun w' hw' => (run_add rfl rfl (by unfold Rg; omega)).trans (int_is (by omega))) ?_
        simp only [Act.put, List.setIfInBounds_toArray, List.set_cons_succ, List.set_cons_zero]
        refine gq_val (v := .slice (some a) n c) (fun _ => trivial) rfl (fun w' hw' => rfl) ?_
        simp only [Act.put, List.setIfInBounds_toArray, List.set_cons_succ, List.set_cons_zero]
        refine gq_val (v := .int .i64 (n : Int)) (fun _ => trivial) rfl (fun w' hw' => run_lenT rfl) ?_
        simp only [Act.put, List.setIfInBounds_toArray, List.set_cons_succ, List.set_cons_zero]
        refine gq_val (v := .bool true) (fun _ => trivial) rfl (fun w' hw' => run_lssT rfl rfl (by omega)) ?_
        simp only [Act.put, List.setIfInBounds_toArray, List.set_cons_succ, List.set_cons_zero]
        refine gq_val (v := .bool true) (fun _ => trivial) rfl (fun w' hw' => rfl) ?_
        simp only [Act.put, List.setIfInBounds_toArray, List.set_cons_succ, List.set_cons_zero]
        by_cases heq : q.x = s.x
        · have HEQ := hid heq
          clear heq
          refine gq_val (v := .slice (some a) n c) (fun _ => trivial) rfl (fun w' hw' => rfl) ?_
          simp only [Act.put, List.setIfInBounds_toArray, List.set_cons_succ, List.set_cons_zero]
          refine gq_val (v := .int .i64 (j : Int)) (fun _ => trivial) rfl (fun w' hw' => rfl) ?_
          simp only [Act.put, List.setIfInBounds_toArray, List.set_cons_succ, List.set_cons_zero]
          refine gq_val (v := .int .i64 ((j + 1 : Nat) : Int)) (fun _ => trivial) rfl (fun w' hw' => (run_add rfl rfl (by unfold Rg; omega)).trans (int_is (by omega))) ?_
          simp only [Act.put, List.setIfInBounds_toArray, List.set_cons_succ, List.set_cons_zero]
          refine gq_val (v := .pointer (some (a.add ((j + 1) * 2)))) (fun _ => trivial) rfl (fun w' hw' => run_idxT rfl rfl (by omega)) ?_
          simp only [Act.put, List.setIfInBounds_toArray, List.set_cons_succ, List.set_cons_zero]
          refine gq_val (v := .pointer (some (a.add ((j + 1) * 2)))) (fun _ => trivial) rfl (fun w' hw' => run_fldT0 rfl) ?_
          simp only [Act.put, List.setIfInBounds_toArray, List.set_cons_succ, List.set_cons_zero]
          refine gq_val (v := .int .i64 q.x) (fun _ => trivial) rfl (fun w' hw' => run_loadInt rfl ((hw'.cell HQL.out).trans HQ0.out)) ?_
          simp only [Act.put, List.setIfInBounds_toArray, List.set_cons_succ, List.set_cons_zero]
          refine gq_val (v := .pointer (some ⟨wo.heap.size, 0, none⟩)) (fun _ => trivial) rfl (fun w' hw' => run_fldT0 rfl) ?_
          simp only [Act.put, List.setIfInBounds_toArray, List.set_cons_succ, List.set_cons_zero]
          refine gq_val (v := .int .i64 s.x) (fun _ => trivial) rfl (fun w' hw' => run_loadInt rfl ((HV.out.next hw').cell 0)) ?_
          simp only [Act.put, List.setIfInBounds_toArray, List.set_cons_succ, List.set_cons_zero]
          refine gq_val (v := .bool true) (fun _ => trivial) rfl (fun w' hw' => run_eqIT rfl rfl HEQ.out) ?_
          simp only [Act.put, List.setIfInBounds_toArray, List.set_cons_succ, List.set_cons_zero]
          refine gq_val (v := .bool true) (fun _ => trivial) rfl (fun w' hw' => rfl) ?_
          simp only [Act.put, List.setIfInBounds_toArray, List.set_cons_succ, List.set_cons_zero]
          refine gq_val (v := .bool true) (fun _ => trivial) rfl (fun w' hw' => rfl) ?_
          simp only [Act.put, List.setIfInBounds_toArray, List.set_cons_succ, List.set_cons_zero]
          refine gq_skip (fun _ => trivial) rfl ?_
          simp only [Act.put, List.setIfInBounds_toArray, List.set_cons_succ, List.set_cons_zero]
          refine gq_skip (fun _ => trivial) rfl ?_
          simp only [Act.put, List.setIfInBounds_toArray, List.set_cons_succ, List.set_cons_zero]
          refine gq_skip (fun _ => trivial) rfl ?_
          simp only [Act.put, List.setIfInBounds_toArray, List.set_cons_succ, List.set_cons_zero]
          refine gq_skip (fun _ => trivial) rfl ?_
          simp only [Act.put, List.setIfInBounds_toArray, List.set_cons_succ, List.set_cons_zero]
          refine gq_skip (fun _ => trivial) rfl ?_
          simp only [Act.put, List.setIfInBounds_toArray, List.set_cons_succ, List.set_cons_zero]
          refine gq_val (v := .bool true) (fun _ => trivial) rfl (fun w' hw' => rfl) ?_
          simp only [Act.put, List.setIfInBounds_toArray, List.set_cons_succ, List.set_cons_zero]
          refine wpQuietIn_nil ?_
          rintro X4 hb4
          have HO4 := hid (HO3.out.next hb4)
          have HG4 := hid (HG3.out.next hb4)
          have HV4 := hid (HV.out.next hb4)
          clear hb4 HG3 HO3 HV
          have HR1 := hid (show rowGo odd y ins wv acc' (s :: qs.drop (j + 1)) = rowGo odd y ins (wv + s.d) acc' (qs.drop (j + 1)) by rw [rowGo, if_pos (by rw [HNX2.out]; simp [goesOn, HEQ.out])])
          go_wp2_with fail
          go_roundw
          case rel => exact ⟨j + 1, wv + s.d, ins, _, acc', by omega, by go_num, rfl, rfl, rfl, hid (by rw [HGR.out, HR1.out]), by omega, by omega, HNE2, hid (by have := HAL.out; omega), HO4, HG4⟩
          case measure => simp [intOf]; omega
        · have HEQ := hid heq
          clear heq
          refine gq_val (v := .slice (some a) n c) (fun _ => trivial) rfl (fun w' hw' => rfl) ?_
          simp only [Act.put, List.setIfInBounds_toArray, List.set_cons_succ, List.set_cons_zero]
          refine gq_val (v := .int .i64 (j : Int)) (fun _ => trivial) rfl (fun w' hw' => rfl) ?_
          simp only [Act.put, List.setIfInBounds_toArray, List.set_cons_succ, List.set_cons_zero]
          refine gq_val (v := .int .i64 ((j + 1 : Nat) : Int)) (fun _ => trivial) rfl (fun w' hw' => (run_add rfl rfl (by unfold Rg; omega)).trans (int_is (by omega))) ?_
          simp only [Act.put, List.setIfInBounds_toArray, List.set_cons_succ, List.set_cons_zero]
          refine gq_val (v := .pointer (some (a.add ((j + 1) * 2)))) (fun _ => trivial) rfl (fun w' hw' => run_idxT rfl rfl (by omega)) ?_
          simp only [Act.put, List.setIfInBounds_toArray, List.set_cons_succ, List.set_cons_zero]
          refine gq_val (v := .pointer (some (a.add ((j + 1) * 2)))) (fun _ => trivial) rfl (fun w' hw' => run_fldT0 rfl) ?_
          simp only [Act.put, List.setIfInBounds_toArray, List.set_cons_succ, List.set_cons_zero]
          refine gq_val (v := .int .i64 q.x) (fun _ => trivial) rfl (fun w' hw' => run_loadInt rfl ((hw'.cell HQL.out).trans HQ0.out)) ?_
          simp only [Act.put, List.setIfInBounds_toArray, List.set_cons_succ, List.set_cons_zero]
          refine gq_val (v := .pointer (some ⟨wo.heap.size, 0, none⟩)) (fun _ => trivial) rfl (fun w' hw' => run_fldT0 rfl) ?_
          simp only [Act.put, List.setIfInBounds_toArray, List.set_cons_succ, List.set_cons_zero]
          refine gq_val (v := .int .i64 s.x) (fun _ => trivial) rfl (fun w' hw' => run_loadInt rfl ((HV.out.next hw').cell 0)) ?_
          simp only [Act.put, List.setIfInBounds_toArray, List.set_cons_succ, List.set_cons_zero]
          refine gq_val (v := .bool false) (fun _ => trivial) rfl (fun w' hw' => run_eqIF rfl rfl HEQ.out) ?_
          simp only [Act.put, List.setIfInBounds_toArray, List.set_cons_succ, List.set_cons_zero]
          have HGO := hid (show goesOn s (qs.drop (j + 1)) = false from by rw [HNX2.out]; simp [goesOn, HEQ.out])
          refine gq_val (v := .bool false) (fun _ => trivial) rfl (fun w' hw' => rfl) ?_
          simp only [Act.put, List.setIfInBounds_toArray, List.set_cons_succ, List.set_cons_zero]
          refine gq_val (v := .bool false) (fun _ => trivial) rfl (fun w' hw' => rfl) ?_
          simp only [Act.put, List.setIfInBounds_toArray, List.set_cons_succ, List.set_cons_zero]
          refine gq_val (v := .int .i64 (wv + s.d)) (fun _ => trivial) rfl (fun w' hw' => rfl) ?_
          simp only [Act.put, List.setIfInBounds_toArray, List.set_cons_succ, List.set_cons_zero]
          refine gq_val (v := .int .i64 rule) (fun _ => trivial) rfl (fun w' hw' => rfl) ?_
          simp only [Act.put, List.setIfInBounds_toArray, List.set_cons_succ, List.set_cons_zero]
          refine gq_call (v := .bool (isF odd (wv + s.d))) (f := 89) (args := #[.int .i64 (wv + s.d), .int .i64 rule]) (fun _ => trivial) rfl rfl (fun _ => run_call2 rfl enters_isFilled) (fun w' hw' => (callsIn_wide.2 (isFilled_any (wv + s.d) rule odd w' HRU.out)).mono fun e w'' he => ⟨he.1, he.2 ▸ hw'⟩) ?_
          simp only [Act.put, List.setIfInBounds_toArray, List.set_cons_succ, List.set_cons_zero]
          refine gq_val (v := .bool ins) (fun _ => trivial) rfl (fun w' hw' => rfl) ?_
          simp only [Act.put, List.setIfInBounds_toArray, List.set_cons_succ, List.set_cons_zero]
          refine gq_val (v := .bool (isF odd (wv + s.d) == ins)) (fun _ => trivial) rfl (fun w' hw' => run_eqB rfl rfl) ?_
          simp only [Act.put, List.setIfInBounds_toArray, List.set_cons_succ, List.set_cons_zero]
          refine gq_val (v := .bool (isF odd (wv + s.d) == ins)) (fun _ => trivial) rfl (fun w' hw' => rfl) ?_
          simp only [Act.put, List.setIfInBounds_toArray, List.set_cons_succ, List.set_cons_zero]
          refine wpQuietIn_nil ?_
          rintro X4 hb4
          have HO4 := hid (HO3.out.next hb4)
          have HG4 := hid (HG3.out.next hb4)
          have HV4 := hid (HV.out.next hb4)
          clear hb4 HG3 HO3 HV
          by_cases hk : isF odd (wv + s.d) = ins
          · have hb : (isF odd (wv + s.d) == ins) = true := by simp [hk]
            rw [hb]
            have HR1 := hid (show rowGo odd y ins wv acc' (s :: qs.drop (j + 1)) = rowGo odd y ins (wv + s.d) acc' (qs.drop (j + 1)) by rw [rowGo, if_pos (by rw [hb]; simp)])
            clear hb hk
            go_wp2_with fail
            go_roundw
            case rel => exact ⟨j + 1, wv + s.d, ins, _, acc', by omega, by go_num, rfl, rfl, rfl, hid (by rw [HGR.out, HR1.out]), by omega, by omega, HNE2, hid (by have := HAL.out; omega), HO4, HG4⟩
            case measure => simp [intOf]; omega
          · have hb : (isF odd (wv + s.d) == ins) = false := by simpa using hk
            rw [hb]
            have HN0 := hid (show ¬ ((goesOn s (qs.drop (j + 1)) || isF odd (wv + s.d) == ins) = true) by rw [HGO.out, hb]; simp)
            clear hb hk
            cases ins with
            | false =>
              have HR1 := hid (show rowGo odd y false wv acc' (s :: qs.drop (j + 1)) = rowGo odd y true (wv + s.d) (acc' ++ [⟨y, s.x, 0⟩]) (qs.drop (j + 1)) by rw [rowGo, if_neg HN0.out, if_neg (by simp)])
              have HBX := hid (show B ≤ X4.heap.size from Nat.le_trans HB.out HG4.out.size)
              have HLN := hid (show acc'.length ≤ 5000000000 by have := HAL.out; omega)
              have k0 := HV4.out.cell 0
              go_wp2_with (at_builtin; refine wpList_append_R (B := B) (xs := acc') (s := ⟨y, s.x, 0⟩) rfl _ _ rfl HBX.out rfl rfl HO4.out HLN.out ?_)
              intro v2 w2 hown hgr
              have HO5 := hid hown
              have HG5 := hid (HG4.out.trans hgr)
              clear hown hgr HG4 HO4 k0
              go_wp2_with fail
              go_roundw
              case rel => exact ⟨j + 1, wv + s.d, true, v2, acc' ++ [⟨y, s.x, 0⟩], by omega, by go_num, rfl, rfl, rfl, hid (by rw [HGR.out, HR1.out]), by omega, by omega, hid (fun _ => by simp), hid (by have := HAL.out; simp; omega), HO5, HG5⟩
              case measure => simp [intOf]; omega
            | true =>
              have HR1 := hid (show rowGo odd y true wv acc' (s :: qs.drop (j + 1)) = rowGo odd y false (wv + s.d) (setEnd acc' s.x) (qs.drop (j + 1)) by rw [rowGo, if_neg HN0.out, if_pos rfl])
              have hne2 := HNE2.out rfl
              obtain ⟨g, cc, rfl, hg1, hg2, hg3⟩ := HO4.out.one hne2
              have hpos : 1 ≤ acc'.length := List.length_pos_iff.2 hne2
              have hj3 : (acc'.length - 1) * 3 + 2 < acc'.length * 3 := by omega
              have k0 := World.ownsRow.cellAt HO4.out ((acc'.length - 1) * 3 + 2) hj3
              rw [List.getElem?_eq_getElem (by rw [flat_length]; exact hj3)] at k0
              have k1 := World.ownsRow.frozenAt HO4.out ((acc'.length - 1) * 3 + 2)
              generalize (flat acc')[(acc'.length - 1) * 3 + 2]'_ = u0 at k0
              have k2 := HV4.out.cell 0
              have HX := hid hne2
              have hal : acc'.length ≤ 5000000000 := by have := HAL.out; omega
              clear hj3 hne2 hg1 hg2 hg3
              go_wp2_with fail
              go_roundw
              case rel => exact ⟨j + 1, wv + s.d, false, _, setEnd acc' s.x, by omega, by go_num, rfl, rfl, rfl, hid (by rw [HGR.out, HR1.out]), by omega, by omega, hid (fun h => by cases h), hid (by have := HAL.out; rw [setEnd_length]; omega), hid (HO4.out.setEnd HX.out _), hid (HG4.out.trans Gr.set)⟩
              case measure => simp [intOf]; omega
      · clear HNX
        refine gq_val (v := .int .i64 (j : Int)) (fun _ => trivial) rfl (fun w' hw' => rfl) ?_
        simp only [Act.put, List.setIfInBounds_toArray, List.set_cons_succ, List.set_cons_zero]
        refine gq_val (v := .int .i64 ((j + 1 : Nat) : Int)) (fun _ => trivial) rfl (fun w' hw' => (run_add rfl rfl (by unfold Rg; omega)).trans (int_is (by omega))) ?_
        simp only [Act.put, List.setIfInBounds_toArray, List.set_cons_succ, List.set_cons_zero]
        refine gq_val (v := .slice (some a) n c) (fun _ => trivial) rfl (fun w' hw' => rfl) ?_
        simp only [Act.put, List.setIfInBounds_toArray, List.set_cons_succ, List.set_cons_zero]
        refine gq_val (v := .int .i64 (n : Int)) (fun _ => trivial) rfl (fun w' hw' => run_lenT rfl) ?_
        simp only [Act.put, List.setIfInBounds_toArray, List.set_cons_succ, List.set_cons_zero]
        refine gq_val (v := .bool false) (fun _ => trivial) rfl (fun w' hw' => run_lssF rfl rfl (by omega)) ?_
        simp only [Act.put, List.setIfInBounds_toArray, List.set_cons_succ, List.set_cons_zero]
        refine gq_val (v := .bool false) (fun _ => trivial) rfl (fun w' hw' => rfl) ?_
        simp only [Act.put, List.setIfInBounds_toArray, List.set_cons_succ, List.set_cons_zero]
        refine gq_skip (fun _ => trivial) rfl ?_
        simp only [Act.put, List.setIfInBounds_toArray, List.set_cons_succ, List.set_cons_zero]
        refine gq_skip (fun _ => trivial) rfl ?_
        simp only [Act.put, List.setIfInBounds_toArray, List.set_cons_succ, List.set_cons_zero]
        refine gq_skip (fun _ => trivial) rfl ?_
        simp only [Act.put, List.setIfInBounds_toArray, List.set_cons_succ, List.set_cons_zero]
        refine gq_skip (fun _ => trivial) rfl ?_
        simp only [Act.put, List.setIfInBounds_toArray, List.set_cons_succ, List.set_cons_zero]
        refine gq_skip (fun _ => trivial) rfl ?_
        simp only [Act.put, List.setIfInBounds_toArray, List.set_cons_succ, List.set_cons_zero]
        refine gq_skip (fun _ => trivial) rfl ?_
        simp only [Act.put, List.setIfInBounds_toArray, List.set_cons_succ, List.set_cons_zero]
        refine gq_skip (fun _ => trivial) rfl ?_
        simp only [Act.put, List.setIfInBounds_toArray, List.set_cons_succ, List.set_cons_zero]
        refine gq_skip (fun _ => trivial) rfl ?_
        simp only [Act.put, List.setIfInBounds_toArray, List.set_cons_succ, List.set_cons_zero]
        refine gq_skip (fun _ => trivial) rfl ?_
        simp only [Act.put, List.setIfInBounds_toArray, List.set_cons_succ, List.set_cons_zero]
        have HGO := hid (show goesOn s (qs.drop (j + 1)) = false from by rw [List.drop_eq_nil_of_le (by have := HN.out; omega)]; rfl)
        refine gq_val (v := .bool false) (fun _ => trivial) rfl (fun w' hw' => rfl) ?_
        simp only [Act.put, List.setIfInBounds_toArray, List.set_cons_succ, List.set_cons_zero]
        refine gq_val (v := .bool false) (fun _ => trivial) rfl (fun w' hw' => rfl) ?_
        simp only [Act.put, List.setIfInBounds_toArray, List.set_cons_succ, List.set_cons_zero]
        refine gq_val (v := .int .i64 (wv + s.d)) (fun _ => trivial) rfl (fun w' hw' => rfl) ?_
        simp only [Act.put, List.setIfInBounds_toArray, List.set_cons_succ, List.set_cons_zero]
        refine gq_val (v := .int .i64 rule) (fun _ => trivial) rfl (fun w' hw' => rfl) ?_
        simp only [Act.put, List.setIfInBounds_toArray, List.set_cons_succ, List.set_cons_zero]
        refine gq_call (v := .bool (isF odd (wv + s.d))) (f := 89) (args := #[.int .i64 (wv + s.d), .int .i64 rule]) (fun _ => trivial) rfl rfl (fun _ => run_call2 rfl enters_isFilled) (fun w' hw' => (callsIn_wide.2 (isFilled_any (wv + s.d) rule odd w' HRU.out)).mono fun e w'' he => ⟨he.1, he.2 ▸ hw'⟩) ?_
        simp only [Act.put, List.setIfInBounds_toArray, List.set_cons_succ, List.set_cons_zero]
        refine gq_val (v := .bool ins) (fun _ => trivial) rfl (fun w' hw' => rfl) ?_
        simp only [Act.put, List.setIfInBounds_toArray, List.set_cons_succ, List.set_cons_zero]
        refine gq_val (v := .bool (isF odd (wv + s.d) == ins)) (fun _ => trivial) rfl (fun w' hw' => run_eqB rfl rfl) ?_
        simp only [Act.put, List.setIfInBounds_toArray, List.set_cons_succ, List.set_cons_zero]
        refine gq_val (v := .bool (isF odd (wv + s.d) == ins)) (fun _ => trivial) rfl (fun w' hw' => rfl) ?_
        simp only [Act.put, List.setIfInBounds_toArray, List.set_cons_succ, List.set_cons_zero]
        refine wpQuietIn_nil ?_
        rintro X4 hb4
        have HO4 := hid (HO3.out.next hb4)
        have HG4 := hid (HG3.out.next hb4)
        have HV4 := hid (HV.out.next hb4)
        clear hb4 HG3 HO3 HV
        by_cases hk : isF odd (wv + s.d) = ins
        · have hb : (isF odd (wv + s.d) == ins) = true := by simp [hk]
          rw [hb]
          have HR1 := hid (show rowGo odd y ins wv acc' (s :: qs.drop (j + 1)) = rowGo odd y ins (wv + s.d) acc' (qs.drop (j + 1)) by rw [rowGo, if_pos (by rw [hb]; simp)])
          clear hb hk
          go_wp2_with fail
          go_roundw
          case rel => exact ⟨j + 1, wv + s.d, ins, _, acc', by omega, by go_num, rfl, rfl, rfl, hid (by rw [HGR.out, HR1.out]), by omega, by omega, HNE2, hid (by have := HAL.out; omega), HO4, HG4⟩
          case measure => simp [intOf]; omega
        · have hb : (isF odd (wv + s.d) == ins) = false := by simpa using hk
          rw [hb]
          have HN0 := hid (show ¬ ((goesOn s (qs.drop (j + 1)) || isF odd (wv + s.d) == ins) = true) by rw [HGO.out, hb]; simp)
          clear hb hk
          cases ins with
          | false =>
            have HR1 := hid (show rowGo odd y false wv acc' (s :: qs.drop (j + 1)) = rowGo odd y true (wv + s.d) (acc' ++ [⟨y, s.x, 0⟩]) (qs.drop (j + 1)) by rw [rowGo, if_neg HN0.out, if_neg (by simp)])
            have HBX := hid (show B ≤ X4.heap.size from Nat.le_trans HB.out HG4.out.size)
            have HLN := hid (show acc'.length ≤ 5000000000 by have := HAL.out; omega)
            have k0 := HV4.out.cell 0
            go_wp2_with (at_builtin; refine wpList_append_R (B := B) (xs := acc') (s := ⟨y, s.x, 0⟩) rfl _ _ rfl HBX.out rfl rfl HO4.out HLN.out ?_)
            intro v2 w2 hown hgr
            have HO5 := hid hown
            have HG5 := hid (HG4.out.trans hgr)
            clear hown hgr HG4 HO4 k0
            go_wp2_with fail
            go_roundw
            case rel => exact ⟨j + 1, wv + s.d, true, v2, acc' ++ [⟨y, s.x, 0⟩], by omega, by go_num, rfl, rfl, rfl, hid (by rw [HGR.out, HR1.out]), by omega, by omega, hid (fun _ => by simp), hid (by have := HAL.out; simp; omega), HO5, HG5⟩
            case measure => simp [intOf]; omega
          | true =>
            have HR1 := hid (show rowGo odd y true wv acc' (s :: qs.drop (j + 1)) = rowGo odd y false (wv + s.d) (setEnd acc' s.x) (qs.drop (j + 1)) by rw [rowGo, if_neg HN0.out, if_pos rfl])
            have hne2 := HNE2.out rfl
            obtain ⟨g, cc, rfl, hg1, hg2, hg3⟩ := HO4.out.one hne2
            have hpos : 1 ≤ acc'.length := List.length_pos_iff.2 hne2
            have hj3 : (acc'.length - 1) * 3 + 2 < acc'.length * 3 := by omega
            have k0 := World.ownsRow.cellAt HO4.out ((acc'.length - 1) * 3 + 2) hj3
            rw [List.getElem?_eq_getElem (by rw [flat_length]; exact hj3)] at k0
            have k1 := World.ownsRow.frozenAt HO4.out ((acc'.length - 1) * 3 + 2)
            generalize (flat acc')[(acc'.length - 1) * 3 + 2]'_ = u0 at k0
            have k2 := HV4.out.cell 0
            have HX := hid hne2
            have hal : acc'.length ≤ 5000000000 := by have := HAL.out; omega
            clear hj3 hne2 hg1 hg2 hg3
            go_wp2_with fail
            go_roundw
            case rel => exact ⟨j + 1, wv + s.d, false, _, setEnd acc' s.x, by omega, by go_num, rfl, rfl, rfl, hid (by rw [HGR.out, HR1.out]), by omega, by omega, hid (fun h => by cases h), hid (by have := HAL.out; rw [setEnd_length]; omega), hid (HO4.out.setEnd HX.out _), hid (HG4.out.trans Gr.set)⟩
            case measure => simp [intOf]; omega
    · have HE := hid (show rowGo odd y false 0 acc qs = acc' by rw [HGR.out, List.drop_eq_nil_of_le (by have := HN.out; omega)]; rfl)
      go_wp2_with fail
      go_ret
      exact ⟨_, rfl, by rw [HE.out]; exact HO2.out, HG.out⟩
end Go.Proofs.Ytijkoaggcmgjiaa
