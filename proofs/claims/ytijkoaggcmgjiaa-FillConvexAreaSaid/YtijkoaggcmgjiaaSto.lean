/- fill.stepsOf. -/
import Derived.Test.YtijkoaggcmgjiaaMov
import Derived.Test.YtijkoaggcmgjiaaFrw
import Derived.Test.YtijkoaggcmgjiaaSrt
import Derived.Test.YtijkoaggcmgjiaaRwn
namespace Go.Proofs.Ytijkoaggcmgjiaa
open Go Go.RowKit Go.Shelf
attribute [local go_sem] Oper.semAt_some
set_option linter.unusedVariables false
set_option linter.unusedSimpArgs false

theorem wpListIn_append_T {F : Fence} {n : Nat} {ops : Array Oper} {rest : List Oper} {o : Oper} {a : Act} {Q : Exit → Act → World → Prop} {w : World} {B : Nat} {v : Value} {xs : List Stp} {s : Stp} (hgd : o.guard = none) (y x : Operand)
    (ho : o.op = .call { callee := .builtin .append, args := #[y, x], argTypes := #[74, 74] }) (hB : B ≤ w.heap.size) (hs : a.eval y = v) (hx : a.eval x = .slice (some ⟨w.heap.size, 0, none⟩) 1 1)
    (hown : OwnT w B v xs) (hl : xs.length ≤ 5000000000)
    (k : ∀ v' w', OwnT w' B v' (xs ++ [s]) → Gr v v' w w' → wpListIn F n Try.prog ops Q rest (a.put o.dst v') w') : wpListIn F n Try.prog ops Q (o :: rest) a (w.alloc (.cells (tcel s) 124)) := by
  obtain ⟨v', w', h1, h2, h3⟩ := append_t (ty := o.type) (s := s) hB hown hl
  refine wpListIn_plain hgd fun K hK' => ?_
  unfold Oper.wpIn
  refine ⟨?_, ?_⟩
  · simp [Oper.about, ho, resolve, Target.leads, Sem.run_pure]
  · rw [Oper.semAt_plain F _ _ (by rw [ho]; intro c hc'; cases hc')]
    simp [execOp, ho, resolve, invoke, builtin, hs, hx, h1, Result.andThen]
    exact hK' _ _ (k v' w' h2 h3)
theorem run_fldS2 {ρ : Operand → Value} {dst : Option Tmp} {ty : TypeId} {pos : String} {af : Array Edge} {x : Operand} {w : World} {gd : Option (Nat × Bool)} {n : Nat} (hx : ρ x = .pointer (some ⟨n, 0, none⟩)) :
    (execOp ρ { dst := dst, op := .fieldAddr 77 x 2, type := ty, pos := pos, after := af, guard := gd }).run Try.prog w = .ok (.value (.pointer (some ⟨n, 4, none⟩))) w := by
  go_simp
theorem RowS.gr {W w : World} {A : Option Addr} {xs : List Sl} {v v' : Value} (h : RowS W A xs) (hg : Gr v v' W w) (hne : ∀ a, A = some a → v.ownBlock ≠ some a.block) : RowS w A xs := fun hn => by
  obtain ⟨a, rfl, hl, hr⟩ := h hn
  have hk : ∀ p : Addr, p.block = a.block → w.cell? p = W.cell? p := fun p hp => World.cell?_of_block (by rw [hp]; exact hg.block hl (hne a rfl))
  refine ⟨a, rfl, Nat.lt_of_lt_of_le hl hg.size, fun i s hi => ?_⟩
  obtain ⟨c0, c1, c2, c3, c4⟩ := hr i s hi
  have hk2 : ∀ j, w.cell? ⟨(a.add (i * 5)).block, (a.add (i * 5)).off + j, none⟩ = W.cell? ⟨(a.add (i * 5)).block, (a.add (i * 5)).off + j, none⟩ := fun j => hk ⟨_, _, _⟩ (add_block a (i * 5))
  exact ⟨(hk _ (add_block _ _)).trans c0, (hk2 1).trans c1, (hk2 2).trans c2, (hk2 3).trans c3, (hk2 4).trans c4⟩

set_option maxRecDepth 100000 in
set_option maxHeartbeats 4000000 in
theorem stepsOf_any (v : Value) (A : Option Addr) (n c : Nat) (xs : List Sl) (y : Int) (B : Nat) (w : World) (hB : B ≤ w.heap.size) (ho : OwnT w B v []) (hn : n = xs.length) (hl : n ≤ 1000000) (hr : RowS w A xs) (hne : ∀ a, A = some a → v.ownBlock ≠ some a.block)
    (hx : ∀ s ∈ xs, SlIn s ∧ s.hit y = true) :
    Calls Try.prog 46 #[v, .slice A n c, .int .i64 y] w fun e w' => ∃ val qs, e = .returned val ∧ qs.Perm (xs.map (stp y)) ∧ List.Pairwise (fun p q => p.x ≤ q.x) qs ∧ OwnT w' B val qs ∧ Gr v val w w' := by
  have HO := hid ho
  have HN := hid hn
  have HR := hid hr
  have HNE := hid hne
  have HX := hid hx
  have HB := hid hB
  clear ho hn hr hne hx hB
  go_enter Try.func46, Try.ntmps46
  go_wp2_with fail
  go_loopw [11, 0] (fun s11 s0 wr => ∃ (i : Nat) (v' : Value), i ≤ n ∧ s11 = .int .i64 i ∧ s0 = v' ∧ Hid (OwnT wr B v' ((xs.take i).map (stp y))) ∧ Hid (Gr v v' w wr)) (fun s11 _ _ => n - (intOf s11).toNat)
  case atStart => exact ⟨0, v, Nat.zero_le _, rfl, rfl, hid HO.out, hid (Gr.refl _ _)⟩
  case round =>
    obtain ⟨wo, rfl⟩ : ∃ wo, wo = wr := ⟨_, rfl⟩
    obtain ⟨i, v', hi, rfl, rfl, HO2, HG⟩ := hrel
    by_cases hlt : i < n
    · have hil : i < xs.length := by rw [← HN.out]; exact hlt
      obtain ⟨a, rfl, hal, hsa⟩ := (HR.out.gr HG.out HNE.out).at_ hil
      have HIN := hid (HX.out xs[i] (List.getElem_mem hil))
      have HT := hid (show (xs.take (i + 1)).map (stp y) = (xs.take i).map (stp y) ++ [stp y xs[i]] by rw [List.take_succ_eq_append_getElem hil, List.map_append]; rfl)
      generalize xs[i] = s at hsa HIN HT
      obtain ⟨c0, c1, c2, c3, c4⟩ := hsa
      obtain ⟨Av, cv, hv, -⟩ := HO2.out.is
      have hml : ((xs.take i).map (stp y)).length = i := by rw [List.length_map, List.length_take]; omega
      rw [hml] at hv
      subst hv
      have HS3 := hid (Var.new wo (slc s) 77 _ rfl)
      have HO3 := hid (HO2.out.next ((Below.refl _ wo).alloc (Nat.le_refl _) (.cells (slc s) 77)))
      have HG3 := hid (HG.out.alloc (.cells (slc s) 77))
      clear HG HO2
      go_upto_region 4 with fail
      rename_i Kn hKn
      clear c0 c1 c2 c3 c4 hal
      obtain ⟨X, hX⟩ : ∃ X, X = wo := ⟨_, rfl⟩
      rw [← hX] at HS3 HO3 HG3
      rw [← hX]
      obtain ⟨X3, hX3⟩ : ∃ X3, X3 = X.alloc (.cells (slc s) 77) := ⟨_, rfl⟩
      rw [← hX3] at HS3 HO3 HG3
      rw [← hX3]
      clear hX hX3
      refine wpIn_wide.1 (grow_tailM (F := Fence.wide) (n := 0) 8 _ (.slice Av i cv) rfl (by kernel_rfl) (by kernel_rfl) (by kernel_rfl) rfl ⟨.inl ⟨rfl, fun w' => rfl⟩, fun w' => rfl⟩ (fun a w h => h) ?_)
      simp only [List.take_succ_cons, List.take_zero, List.drop_succ_cons, List.drop_zero, Act.put, List.setIfInBounds_toArray, List.set_cons_succ, List.set_cons_zero]
      refine gq_val (v := slv s) (fun _ => trivial) rfl (fun w' hw' => run_loadSlp rfl (HS3.out.next hw')) ?_
      simp only [Act.put, List.setIfInBounds_toArray, List.set_cons_succ, List.set_cons_zero]
      refine gq_val (v := .int .i64 y) (fun _ => trivial) rfl (fun w' hw' => rfl) ?_
      simp only [Act.put, List.setIfInBounds_toArray, List.set_cons_succ, List.set_cons_zero]
      refine gq_call (v := .int .i64 (s.cell y)) (f := 57) (args := #[slv s, .int .i64 y]) (fun _ => trivial) rfl rfl (fun _ => run_call2 rfl enters_cellAt) (fun w' hw' => (callsIn_wide.2 (cellAt_any s y w' HIN.out.1 HIN.out.2)).mono fun e w'' he => ⟨he.1, below_next hw' he.2⟩) ?_
      simp only [Act.put, List.setIfInBounds_toArray, List.set_cons_succ, List.set_cons_zero]
      refine gq_val (v := .int .i64 (min (s.cell y) 8192)) (fun _ => trivial) rfl (fun w' hw' => run_min2 rfl rfl) ?_
      simp only [Act.put, List.setIfInBounds_toArray, List.set_cons_succ, List.set_cons_zero]
      refine gq_val (v := .int .i64 (max (-8192) (min (s.cell y) 8192))) (fun _ => trivial) rfl (fun w' hw' => run_max2 rfl rfl) ?_
      simp only [Act.put, List.setIfInBounds_toArray, List.set_cons_succ, List.set_cons_zero]
      refine gq_val (v := .pointer (some ⟨X.heap.size, 4, none⟩)) (fun _ => trivial) rfl (fun w' hw' => run_fldS2 rfl) ?_
      simp only [Act.put, List.setIfInBounds_toArray, List.set_cons_succ, List.set_cons_zero]
      refine gq_val (v := .int .i64 s.d) (fun _ => trivial) rfl (fun w' hw' => run_loadInt rfl ((HS3.out.next hw').cell 4)) ?_
      simp only [Act.put, List.setIfInBounds_toArray, List.set_cons_succ, List.set_cons_zero]
      refine wpQuietIn_nil ?_
      rintro X4 hb4
      have HO4 := hid (HO3.out.next hb4)
      have HG4 := hid (HG3.out.next hb4)
      have HBX := hid (show B ≤ X4.heap.size from Nat.le_trans HB.out (HG4.out.size))
      have HLN := hid (show ((xs.take i).map (stp y)).length ≤ 5000000000 by rw [hml]; omega)
      clear hb4 HG3 HO3 HS3
      gi_wp2_with (gi_at_builtin; refine wpListIn_append_T (B := B) (xs := (xs.take i).map (stp y)) (s := stp y s) rfl _ _ rfl HBX.out rfl rfl HO4.out HLN.out ?_)
      intro v' w' hown hgr
      have HO5 := hid hown
      have HG5 := hid (HG4.out.trans hgr)
      clear hown hgr HG4 HO4
      gi_wp2
      dsimp only [nOnly]
      go_wp2_with fail
      go_roundw
      case rel => exact ⟨i + 1, v', by omega, by go_num, rfl, hid (by rw [HT.out, List.map_take]; exact HO5.out), HG5⟩
      case measure => simp [intOf]; omega
    · have HE := hid (show (xs.take i).map (stp y) = xs.map (stp y) by rw [List.take_of_length_le (by have := HN.out; omega)])
      have HBX := hid (show B ≤ wo.heap.size from Nat.le_trans HB.out (HG.out.size))
      have HLN := hid (show ((xs.take i).map (stp y)).length ≤ 5000000000 by rw [List.length_map, List.length_take]; omega)
      go_wp2_with fail
      (with_reducible refine (sortT_any _ _ B _ HBX.out HO2.out HLN.out).mono ?_); rintro e w2 ⟨rfl, qs, hp, hsrt, hown, hgr⟩
      have HQ := hid hp
      have HP := hid hsrt
      have HO6 := hid hown
      have HG6 := hid (HG.out.trans hgr)
      clear hp hsrt hown hgr
      go_wp2_with fail
      go_ret
      exact ⟨_, qs, rfl, by rw [← HE.out]; exact HQ.out, HP.out, HO6.out, HG6.out⟩
end Go.Proofs.Ytijkoaggcmgjiaa
