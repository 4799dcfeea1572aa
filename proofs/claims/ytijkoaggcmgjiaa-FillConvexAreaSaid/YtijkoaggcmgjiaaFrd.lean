/- The reference's Filled (written by r9_frd.py). -/
import Derived.Test.YtijkoaggcmgjiaaFro
namespace Go.Proofs.Ytijkoaggcmgjiaa
open Go Go.RowKit
attribute [local go_sem] Oper.semAt_some
set_option linter.unusedVariables false
set_option linter.unusedSimpArgs false

section
variable {ρ : Operand → Value} {dst : Option Tmp} {ty : TypeId} {pos : String} {af : Array Edge} {x y : Operand} {w : World} {gd : Option (Nat × Bool)}
theorem run_idxL {a : Addr} {j n c : Nat} (hx : ρ x = .slice (some a) n c) (hy : ρ y = .int .i64 (j : Int)) (hj : j < n) :
    (execOp ρ { dst := dst, op := .indexAddr 22 x y, type := ty, pos := pos, after := af, guard := gd }).run Try.prog w = .ok (.value (.pointer (some (a.add (j * 2))))) w := by
  have h1 : (j : Int) < (n : Int) := by omega
  have h0 : (0 : Int) ≤ (j : Int) := Int.natCast_nonneg _
  go_simp
theorem run_fldL0 {a : Addr} (hx : ρ x = .pointer (some a)) :
    (execOp ρ { dst := dst, op := .fieldAddr 38 x 0, type := ty, pos := pos, after := af, guard := gd }).run Try.prog w = .ok (.value (.pointer (some a))) w := by
  go_simp
theorem run_loadPsl {a : Addr} {A : Option Addr} {n c : Nat} (hx : ρ x = .pointer (some a)) (hV : w.cell? a = some (.slice A n c)) :
    (execOp ρ { dst := dst, op := .load 36 x, type := ty, pos := pos, after := af, guard := gd }).run Try.prog w = .ok (.value (.slice A n c)) w := by
  go_simp
end
theorem wpList_append_Rs {ops : Array Oper} {rest : List Oper} {o : Oper} {a : Act} {Q : Exit → Act → World → Prop} {w w' : World} {v u v' : Value} (hgd : o.guard = none) (y x : Operand)
    (ho : o.op = .call { callee := .builtin .append, args := #[y, x], argTypes := #[25, 25] }) (hs : a.eval y = v) (hx : a.eval x = u)
    (h1 : ∀ ty, (Builtin.append_ #[25, 25] ty #[v, u]).run Try.prog w = .ok v' w')
    (k : wpList Try.prog ops Q rest (a.put o.dst v') w') : wpList Try.prog ops Q (o :: rest) a w := by
  refine wpList_plain hgd fun K hK' => ?_
  simp [Oper.wp, execOp, ho, resolve, invoke, builtin, hs, hx, h1, Result.andThen]
  exact hK' _ _ k
/-- All heights seen so far lie between lo and hi. -/
structure LoHi (ls : List Ln) (i : Nat) (qs : List P2) (lo hi : Int) : Prop where
  l : ∀ l ∈ ls.take i, ∀ p ∈ l.ps, lo ≤ p.y ∧ p.y ≤ hi
  q : ∀ p ∈ qs, lo ≤ p.y ∧ p.y ≤ hi
theorem LoHi.more {ls : List Ln} {i : Nat} {qs : List P2} {lo hi : Int} (h : LoHi ls i qs lo hi) (p : P2) : LoHi ls i (qs ++ [p]) (min lo p.y) (max hi p.y) :=
  ⟨fun l hl q hq => by have := h.l l hl q hq; omega, fun q hq => by
    rcases List.mem_append.1 hq with hq | hq
    · have := h.q q hq; omega
    · rw [List.mem_singleton] at hq; subst hq; omega⟩
theorem LoHi.line {ls : List Ln} {i : Nat} {lo hi : Int} (hi' : i < ls.length) (h : LoHi ls i ls[i].ps lo hi) : LoHi ls (i + 1) [] lo hi :=
  ⟨fun l hl p hp => by
    rw [List.take_succ_eq_append_getElem hi'] at hl
    rcases List.mem_append.1 hl with hl | hl
    · exact h.l l hl p hp
    · rw [List.mem_singleton] at hl; subst hl; exact h.q p hp, fun p hp => (by cases hp)⟩
theorem no_hits {ls : List Ln} {lo hi y : Int} (h : ∀ l ∈ ls, ∀ p ∈ l.ps, lo ≤ p.y ∧ p.y ≤ hi) (hy : y < lo ∨ hi ≤ y) : hits (edgesL ls) y = [] := by
  unfold hits perL
  refine List.filter_eq_nil_iff.2 fun s hs => ?_
  obtain ⟨e, he, rfl⟩ := List.mem_map.1 (List.mem_filter.1 hs).1
  have hm := edges_mem (Q := fun p => lo ≤ p.y ∧ p.y ≤ hi) h e he
  have : ¬ (slp e.1 e.2).hit y = true := by
    unfold slp Sl.hit
    split <;> simp <;> omega
  exact this

set_option maxHeartbeats 16000000 in
set_option maxRecDepth 100000 in
theorem filled_any (A : Option Addr) (ls : List Ln) (n c : Nat) (odd : Bool) (w : World) (hn : n = ls.length) (hl : n ≤ maxLen) (hs : Lns w A ls) (hok : lchk ls = 0) (hlen : (edgesL ls).length ≤ 1000000) :
    Calls Try.prog 16 #[.slice A n c, .bool odd] w fun e w' => ∃ v rs, e = .returned v ∧ Filled odd ls rs ∧ OwnR w' w.heap.size v rs ∧ Below w.heap.size w w' := by
  have HOK := hid (lok_all (lok_of hok))
  obtain ⟨es, rfl, hE⟩ := hs.ext
  have HLN0 := hid hs
  have HOK0 := hid hok
  have HNL := hid hn
  have HML := hid hl
  have HS := hid hE
  have HN := hid (show n = es.length by simpa using hn)
  unfold maxLen at hl
  obtain ⟨ls, hls⟩ : ∃ ls, ls = es.map LE.ln := ⟨_, rfl⟩
  have HLS := hid hls
  rw [← hls] at HOK HLN0 HOK0 HNL hlen ⊢
  have HLEN := hid hlen
  clear hs hn hE hls hok hlen
  go_enter Try.func16, Try.ntmps16
  go_wp2_with fail
  go_loopw [13, 5, 6] (fun s13 s5 s6 wr => ∃ (i : Nat) (lo hi : Int), s13 = .int .i64 i ∧ s5 = .int .i64 lo ∧ s6 = .int .i64 hi ∧ i ≤ n ∧ -32767 ≤ lo ∧ lo ≤ 8192 ∧ -8192 ≤ hi ∧ hi ≤ 32767 ∧ Hid (LoHi ls i [] lo hi) ∧ Hid (Below w.heap.size w wr)) (fun s13 _ _ _ => n - (intOf s13).toNat)
  case atStart => exact ⟨0, 8192, -8192, rfl, rfl, rfl, Nat.zero_le _, by omega, by omega, by omega, by omega, hid ⟨fun l hl => (by cases hl), fun p hp => (by cases hp)⟩, hid (Below.refl _ w)⟩
  case round =>
    obtain ⟨wo, rfl⟩ : ∃ wo, wo = wr := ⟨_, rfl⟩
    obtain ⟨i, lo, hi, rfl, rfl, rfl, hi0, hb1, hb2, hb3, hb4, HL, HB⟩ := hrel
    by_cases hlt : i < n
    · have hltn := hlt
      have hil : i < es.length := by rw [← HN.out]; exact hlt
      have hil2 : i < ls.length := by rw [HLS.out]; simpa using hil
      obtain ⟨a, rfl, hal, hsa⟩ := (HS.out.next HB.out).at_ hil
      have HG := hid (show ∀ p ∈ es[i].ps, _ from fun p hp => HOK.out es[i].ln (by rw [HLS.out]; exact List.mem_map_of_mem (List.getElem_mem hil)) p hp)
      have HLI := hid (show ls[i].ps = es[i].ps by simp [HLS.out, LE.ln])
      have HIL2 := hid hil2
      generalize es[i] = g at hsa HG HLI
      obtain ⟨c0, c1, hpts, hpc, hpm⟩ := hsa
      have HPM := hid (Nat.le_trans hpc hpm)
      have HP0 := hid hpts
      have HAC0 := hid c0
      have HAB0 := hid hal
      obtain ⟨m, hm⟩ : ∃ m, m = g.ps.length := ⟨_, rfl⟩
      have HM := hid hm
      obtain ⟨A', hA'⟩ : ∃ A', A' = g.A := ⟨_, rfl⟩
      rw [← hm, ← hA'] at c0 HAC0
      rw [← hm] at HPM
      rw [← hA'] at HP0
      have hml : m ≤ 2 ^ 63 - 1 := by have := HPM.out; unfold maxLen at this; omega
      clear hpc hpm hm hA' hal hpts
      have HIL := hid (show i < n from hlt)
      go_wp2_with fail
      clear c0 c1
      go_loopw [22, 5, 6] (fun s22 s5 s6 wx => ∃ (k : Nat) (lo hi : Int), s22 = .int .i64 k ∧ s5 = .int .i64 lo ∧ s6 = .int .i64 hi ∧ k ≤ m ∧ -32767 ≤ lo ∧ lo ≤ 8192 ∧ -8192 ≤ hi ∧ hi ≤ 32767 ∧ Hid (LoHi ls i (g.ps.take k) lo hi) ∧ Hid (Below wo.heap.size wo wx)) (fun s22 _ _ _ => m - (intOf s22).toNat)
      case atStart => exact ⟨0, lo, hi, rfl, rfl, rfl, Nat.zero_le _, by omega, by omega, by omega, by omega, hid (by rw [List.take_zero]; exact HL.out), hid (Below.refl _ _)⟩
      case round =>
        clear HL
        clear hb1 hb2 hb3 hb4
        obtain ⟨wx, rfl⟩ : ∃ wx, wx = wr := ⟨_, rfl⟩
        obtain ⟨k, lo, hi, rfl, rfl, rfl, hk, hb1, hb2, hb3, hb4, HL, HBX⟩ := hrel
        by_cases hlt : k < m
        · have hkl : k < g.ps.length := by rw [← HM.out]; exact hlt
          obtain ⟨bp, rfl, hbl, hb0⟩ := (HP0.out.next HBX.out).at_ hkl
          have HTE := hid (show g.ps.take (k + 1) = g.ps.take k ++ [g.ps[k]] from List.take_succ_eq_append_getElem hkl)
          have hj1 := (HG.out _ (List.getElem_mem hkl)).2
          generalize g.ps[k] = pj at hb0 HTE hj1
          have HAC := hid ((HBX.out.cell (p := a.add (i * 2)) (by rw [add_block]; exact HAB0.out)).trans HAC0.out)
          have HAB := hid (show (a.add (i * 2)).block < wx.heap.size by rw [add_block]; exact Nat.lt_of_lt_of_le HAB0.out HBX.out.size)
          have hIL := HIL.out
          obtain ⟨hj2, hj3⟩ := hj1
          go_upto_region 8 with fail
          refine grow_plain (by kernel_rfl) (by kernel_rfl) (by kernel_rfl) ?_
          refine gq_val (v := .int .i64 lo) (fun _ => trivial) rfl (fun w' hw' => rfl) ?_
          simp only [Act.put, List.setIfInBounds_toArray, List.set_cons_succ, List.set_cons_zero]
          refine gq_val (v := .slice (some a) n c) (fun _ => trivial) rfl (fun w' hw' => rfl) ?_
          simp only [Act.put, List.setIfInBounds_toArray, List.set_cons_succ, List.set_cons_zero]
          refine gq_val (v := .int .i64 (i : Int)) (fun _ => trivial) rfl (fun w' hw' => rfl) ?_
          simp only [Act.put, List.setIfInBounds_toArray, List.set_cons_succ, List.set_cons_zero]
          refine gq_val (v := .pointer (some (a.add (i * 2)))) (fun _ => trivial) rfl (fun w' hw' => run_idxL rfl rfl hltn) ?_
          simp only [Act.put, List.setIfInBounds_toArray, List.set_cons_succ, List.set_cons_zero]
          refine gq_val (v := .pointer (some (a.add (i * 2)))) (fun _ => trivial) rfl (fun w' hw' => run_fldL0 rfl) ?_
          simp only [Act.put, List.setIfInBounds_toArray, List.set_cons_succ, List.set_cons_zero]
          refine gq_val (v := .slice (some bp) m g.c) (fun _ => trivial) rfl (fun w' hw' => run_loadPsl rfl ((hw'.cell HAB.out).trans HAC.out)) ?_
          simp only [Act.put, List.setIfInBounds_toArray, List.set_cons_succ, List.set_cons_zero]
          refine gq_val (v := .int .i64 (k : Int)) (fun _ => trivial) rfl (fun w' hw' => rfl) ?_
          simp only [Act.put, List.setIfInBounds_toArray, List.set_cons_succ, List.set_cons_zero]
          refine gq_val (v := .pointer (some (bp.add (k * 2)))) (fun _ => trivial) rfl (fun w' hw' => run_indexPN rfl rfl hlt) ?_
          simp only [Act.put, List.setIfInBounds_toArray, List.set_cons_succ, List.set_cons_zero]
          refine gq_val (v := .pointer (some ⟨(bp.add (k * 2)).block, (bp.add (k * 2)).off + 1, none⟩)) (fun _ => trivial) rfl (fun w' hw' => run_fldY rfl) ?_
          simp only [Act.put, List.setIfInBounds_toArray, List.set_cons_succ, List.set_cons_zero]
          refine gq_val (v := .int .i64 pj.y) (fun _ => trivial) rfl (fun w' hw' => run_loadInt rfl ((hb0.below hw' (by rw [add_block]; exact hbl)).c1)) ?_
          simp only [Act.put, List.setIfInBounds_toArray, List.set_cons_succ, List.set_cons_zero]
          refine gq_val (v := .int .i64 (min lo pj.y)) (fun _ => trivial) rfl (fun w' hw' => run_min2 rfl rfl) ?_
          simp only [Act.put, List.setIfInBounds_toArray, List.set_cons_succ, List.set_cons_zero]
          refine gq_val (v := .int .i64 hi) (fun _ => trivial) rfl (fun w' hw' => rfl) ?_
          simp only [Act.put, List.setIfInBounds_toArray, List.set_cons_succ, List.set_cons_zero]
          refine gq_val (v := .slice (some a) n c) (fun _ => trivial) rfl (fun w' hw' => rfl) ?_
          simp only [Act.put, List.setIfInBounds_toArray, List.set_cons_succ, List.set_cons_zero]
          refine gq_val (v := .int .i64 (i : Int)) (fun _ => trivial) rfl (fun w' hw' => rfl) ?_
          simp only [Act.put, List.setIfInBounds_toArray, List.set_cons_succ, List.set_cons_zero]
          refine gq_val (v := .pointer (some (a.add (i * 2)))) (fun _ => trivial) rfl (fun w' hw' => run_idxL rfl rfl hltn) ?_
          simp only [Act.put, List.setIfInBounds_toArray, List.set_cons_succ, List.set_cons_zero]
          refine gq_val (v := .pointer (some (a.add (i * 2)))) (fun _ => trivial) rfl (fun w' hw' => run_fldL0 rfl) ?_
          simp only [Act.put, List.setIfInBounds_toArray, List.set_cons_succ, List.set_cons_zero]
          refine gq_val (v := .slice (some bp) m g.c) (fun _ => trivial) rfl (fun w' hw' => run_loadPsl rfl ((hw'.cell HAB.out).trans HAC.out)) ?_
          simp only [Act.put, List.setIfInBounds_toArray, List.set_cons_succ, List.set_cons_zero]
          refine gq_val (v := .int .i64 (k : Int)) (fun _ => trivial) rfl (fun w' hw' => rfl) ?_
          simp only [Act.put, List.setIfInBounds_toArray, List.set_cons_succ, List.set_cons_zero]
          refine gq_val (v := .pointer (some (bp.add (k * 2)))) (fun _ => trivial) rfl (fun w' hw' => run_indexPN rfl rfl hlt) ?_
          simp only [Act.put, List.setIfInBounds_toArray, List.set_cons_succ, List.set_cons_zero]
          refine gq_val (v := .pointer (some ⟨(bp.add (k * 2)).block, (bp.add (k * 2)).off + 1, none⟩)) (fun _ => trivial) rfl (fun w' hw' => run_fldY rfl) ?_
          simp only [Act.put, List.setIfInBounds_toArray, List.set_cons_succ, List.set_cons_zero]
          refine gq_val (v := .int .i64 pj.y) (fun _ => trivial) rfl (fun w' hw' => run_loadInt rfl ((hb0.below hw' (by rw [add_block]; exact hbl)).c1)) ?_
          simp only [Act.put, List.setIfInBounds_toArray, List.set_cons_succ, List.set_cons_zero]
          refine gq_val (v := .int .i64 (max hi pj.y)) (fun _ => trivial) rfl (fun w' hw' => run_max2 rfl rfl) ?_
          simp only [Act.put, List.setIfInBounds_toArray, List.set_cons_succ, List.set_cons_zero]
          refine gq_val (v := .int .i64 (min lo pj.y)) (fun _ => trivial) rfl (fun w' hw' => rfl) ?_
          simp only [Act.put, List.setIfInBounds_toArray, List.set_cons_succ, List.set_cons_zero]
          refine gq_val (v := .int .i64 (max hi pj.y)) (fun _ => trivial) rfl (fun w' hw' => rfl) ?_
          simp only [Act.put, List.setIfInBounds_toArray, List.set_cons_succ, List.set_cons_zero]
          refine wpQuietIn_nil ?_
          rintro X4 hb4'
          have HBX4 := hid (below_next HBX.out hb4')
          have HL4 := hid (show LoHi ls i (g.ps.take (k + 1)) (min lo pj.y) (max hi pj.y) by rw [HTE.out]; exact HL.out.more pj)
          clear hb4' hb0 hbl
          go_wp2_with fail
          go_roundw
          case rel => exact ⟨k + 1, min lo pj.y, max hi pj.y, by go_num, rfl, rfl, by omega, by omega, by omega, by omega, by omega, HL4, HBX4⟩
          case measure => simp [intOf]; omega
        · have HL2 := hid (show LoHi ls (i + 1) [] lo hi from LoHi.line HIL2.out (by have := HL.out; rw [List.take_of_length_le (by have := HM.out; omega)] at this; rw [HLI.out]; exact this))
          have HB2 := hid (below_next HB.out HBX.out)
          have hIL := HIL.out
          clear HL
          go_wp2_with fail
          go_roundw
          case rel => exact ⟨i + 1, lo, hi, by go_num, rfl, rfl, by omega, by omega, by omega, by omega, by omega, HL2, HB2⟩
          case measure => simp [intOf]; omega
    · have HALL := hid (show ∀ l ∈ ls, ∀ p ∈ l.ps, lo ≤ p.y ∧ p.y ≤ hi from fun l hl => HL.out.l l (by rw [List.take_of_length_le (by have := HNL.out; omega)]; exact hl))
      clear HL
      go_wp2_with fail
      go_loopw [10, 9] (fun s10 s9 wr => ∃ (y : Int) (v : Value) (out : List Rn), v = s9 ∧ s10 = .int .i64 y ∧ -8192 ≤ y ∧ y ≤ 8192 ∧ Hid (UpTo odd ls y out) ∧ Hid (OwnR wr w.heap.size v out) ∧ Hid (Below w.heap.size w wr)) (fun s10 _ _ => (8192 - intOf s10).toNat)
      case atStart => exact ⟨max lo (-8192), _, [], rfl, rfl, by omega, by omega, hid ((UpTo.start odd ls).skip (by omega) (by omega) fun y' h1 h2 _ => no_hits HALL.out (.inl (by omega))), hid (OwnR.nil _ _), HB⟩
      case round =>
        clear HB
        obtain ⟨wx, rfl⟩ : ∃ wx, wx = wr := ⟨_, rfl⟩
        obtain ⟨y, v, out, rfl, rfl, hy1, hy2, HU, HO, HB⟩ := hrel
        by_cases hlt : y < min hi 8192
        · have HBB := hid (show w.heap.size ≤ wx.heap.size from HB.out.size)
          have HFR := hid (frow_any A ls n c odd y wx HNL.out HML.out (HLN0.out.next HB.out) HOK0.out ⟨hy1, by omega⟩ HLEN.out)
          go_wp2_with fail
          (with_reducible refine (HFR.out).mono ?_); rintro e w5 ⟨v5, rs, rfl, hrf, hown, hb⟩
          have HRF := hid hrf
          have HB5 := hid (HB.out.trans (hb.mono HBB.out))
          have HO5 := hid (HO.out.next hb)
          obtain ⟨A5, c5, rfl, hru⟩ := hown.is
          have hl1 := chk_len HU.out.ok
          have hl2 := chk_len hrf.v
          have HZ5 := hid (show w.heap.size ≤ w5.heap.size from HB5.out.size)
          obtain ⟨v6, w6, happ, hown6, hgr⟩ := append_runsF (m := rs.length) (c := c5) HZ5.out HO5.out rfl hru (by omega)
          have HO6 := hid hown6
          have HB6 := hid (HB5.out.trans (hgr.below HZ5.out fun q hq => (HO5.out.ge q hq).1))
          have HU6 := hid (HU.out.rowF ⟨hy1, by omega⟩ hrf)
          have HAPP := hid happ
          clear hrf hown hb hru hown6 hgr HFR HO HU HB HO5 HB5 hl1 hl2 happ
          go_wp2_with (at_builtin; refine wpList_append_Rs rfl _ _ rfl rfl rfl HAPP.out ?_)
          go_roundw
          case rel => exact ⟨y + 1, v6, out ++ rs, rfl, rfl, by omega, by omega, HU6, HO6, HB6⟩
          case measure => simp [intOf]; omega
        · have HFL := hid (show Filled odd ls out from by
            rcases Int.lt_or_le y 8192 with h | h
            · exact (HU.out.skip (y2 := 8192) hy1 (by omega) fun y' h1 h2 _ => no_hits HALL.out (.inr (by omega))).whole (Int.le_refl _)
            · exact HU.out.whole h)
          go_wp2_with fail
          go_ret
          exact ⟨_, rfl, out, HFL.out, HO.out, HB.out⟩
end Go.Proofs.Ytijkoaggcmgjiaa
