/- The reference's put. -/
import Derived.Test.YtijkoaggcmgjiaaIns
import Derived.Test.YtijkoaggcmgjiaaStepB
namespace Go.Proofs.Ytijkoaggcmgjiaa
open Go Go.RowKit
set_option linter.unusedVariables false
set_option linter.unusedSimpArgs false

section
variable {ρ : Operand → Value} {dst : Option Tmp} {ty : TypeId} {pos : String} {af : Array Edge} {x y : Operand} {w : World} {gd : Option (Nat × Bool)}
theorem run_litI {z : Int} (hx : ρ x = .int .i64 z) :
    (execOp ρ { dst := dst, op := .buildSlice 128 1 #[(0, x)], type := ty, pos := pos, after := af, guard := gd }).run Try.prog w = .ok (.value (.slice (some ⟨w.heap.size, 0, none⟩) 1 1)) (w.alloc (.cells #[.int .i64 z] 3)) := by
  go_simp
theorem run_copyB {P : Program} {t : TypeId} {v v' u : Value} {w' : World} (hx : ρ x = v) (hy : ρ y = u) (h : (Builtin.copy_ #[t, t] ty #[v, u]).run P w = .ok v' w') :
    (execOp ρ { dst := dst, op := .call { callee := .builtin .copy, args := #[x, y], argTypes := #[t, t] }, type := ty, pos := pos, after := af, guard := gd }).run P w = .ok (.value v') w' := by
  unfold execOp
  simp only [resolve, invoke, builtin, Sem.run_bind, Sem.run_pure, Result.andThen_ok, List.map_toArray, List.map_cons, List.map_nil, hx, hy, h]
end
theorem own_cap {w : World} {B n g c : Nat} {e : TypeId} {size : Nat} {xs : List Value} (h : w.ownsRow B e size (.slice (some ⟨g, 0, none⟩) n c) n xs) : c ≤ maxLen := by
  rcases h.2 with ⟨h0, _⟩ | ⟨g2, cap, cur, hv, hb, hh, hn, hm, _⟩
  · cases h0
  · injection hv with hv hv1 hv2; subst hv2; exact hm
theorem put_len {zs : List Int} {k : Nat} (hk : k ≤ zs.length) : ((zs ++ [0]).take (k + 1) ++ zs.drop k).length = zs.length + 1 := by
  rw [List.length_append, List.length_take, List.length_drop, List.length_append, List.length_singleton]; omega
/-- What is moved up by one place. -/
theorem put_copy {w : World} {B g c k : Nat} {zs : List Int} {ty : TypeId} (h : OwnI w B (.slice (some ⟨g, 0, none⟩) (zs.length + 1) c) (zs ++ [0])) (hk : k ≤ zs.length) :
    ∃ w', (Builtin.copy_ #[128, 128] ty #[.slice (some (if c = k + 1 then ⟨g, 0, none⟩ else (⟨g, 0, none⟩ : Addr).add (k + 1))) (zs.length + 1 - (k + 1)) (c - (k + 1)), .slice (some (if c = k then ⟨g, 0, none⟩ else (⟨g, 0, none⟩ : Addr).add k)) (zs.length + 1 - k) (c - k)]).run Try.prog w.drew = .ok (.int .i64 ((zs.length - k : Nat) : Int)) w' ∧
      OwnI w' B (.slice (some ⟨g, 0, none⟩) (zs.length + 1) c) ((zs ++ [0]).take (k + 1) ++ zs.drop k) ∧ Gr (.slice (some ⟨g, 0, none⟩) (zs.length + 1) c) (.slice (some ⟨g, 0, none⟩) (zs.length + 1) c) w w' := by
  have hl : (zs ++ [0]).length = zs.length + 1 := by simp
  have hsz : (Try.prog.info? 3).map (·.size) = some 1 := by
    obtain ⟨i0, hi, -, hz1, -⟩ := info_parts infoI
    rw [hi]; simp [hz1]
  rcases Nat.lt_or_ge k zs.length with hlt | hge
  · have hcells := fun j u => World.ownsRow.cells h (g := g) rfl j u
    rcases h.2 with ⟨h0, _⟩ | ⟨g2, cap, cur, hv, hb, hh, hn, hm, hcs, ht⟩
    · cases h0
    · injection hv with hv hv1 hv2
      injection hv with hv
      injection hv with hv
      subst hv hv2
      rw [hl] at hn ht
      rw [if_neg (by omega), if_neg (by omega), addr0, addr0]
      have hr := run_copy_row (P := Try.prog) w.drew 128 128 ty 3 g (k + 1) (zs.length + 1 - (k + 1)) (c - (k + 1)) ⟨g, k, none⟩ (zs.length + 1 - k) (c - k) cur 3 (ints (zs.drop k))
        Try.underlying128 hsz hh (by rw [List.length_map, List.length_drop]; show _ = min _ _; omega) (fun j u hu => by
          have e : (⟨g, k, none⟩ : Addr).add j = ⟨g, k + j, none⟩ := by cases j <;> rfl
          rw [e]
          have := hcells (k + j) u (by
            rw [List.getElem?_map, List.getElem?_drop] at hu
            rw [List.getElem?_map, List.getElem?_append_left (by
              rcases Nat.lt_or_ge (k + j) zs.length with k1 | k1
              · exact k1
              · rw [List.getElem?_eq_none k1] at hu; cases hu)]
            exact hu)
          rwa [addr0] at this) (by simp; omega) (fun u hu => by
          obtain ⟨z, -, rfl⟩ := List.mem_map.1 hu
          rfl)
      have e1 : (ints (zs.drop k)).length = zs.length - k := by simp
      rw [e1] at hr
      refine ⟨_, hr, ⟨by simp, .inr ⟨g, c, _, by rw [put_len hk], hb, setRow_heap w.drew g cur _ 3 (0, 0) hh, by rw [put_len hk]; exact hn, hm, ?_, ?_⟩⟩, ⟨⟨rfl, rfl, rfl, by simp, fun i hi hne => setRow_other w.drew g i _ (fun e => hne (by rw [e]; rfl))⟩, fun i e => .inl e⟩⟩
      · simp; omega
      · rw [put_len hk]
        have e2 : (cur.toList.take (k + 1)).length = k + 1 := by simp; omega
        have e3 : cur.toList.take (k + 1) = ints ((zs ++ [0]).take (k + 1)) := by
          have := congrArg (List.take (k + 1)) ht
          rw [List.take_take, show min (k + 1) ((zs.length + 1) * 1) = k + 1 by omega] at this
          rw [this]
          exact List.map_take.symm
        rw [show (cur.toList.take (k + 1) ++ ints (zs.drop k) ++ cur.toList.drop (k + 1 + (zs.length - k))).toArray.toList = (cur.toList.take (k + 1) ++ ints (zs.drop k)) ++ cur.toList.drop (k + 1 + (zs.length - k)) from rfl]
        rw [List.take_append_of_le_length (by rw [List.length_append, e1, e2]; omega), List.take_of_length_le (by rw [List.length_append, e1, e2]; omega), e3, ints, ints, ints, List.map_append]
  · have hk2 : k = zs.length := by omega
    subst hk2
    refine ⟨w.drew, ?_, ?_, Gr.of_below (Below.refl _ w).drew⟩
    · rw [run_copy_none (P := Try.prog) w.drew 128 128 ty 3 _ _ _ _ _ _ Try.underlying128 hsz (by simp)]
      simp [goInt]
    · have e : ((zs ++ [0]).take (zs.length + 1) ++ zs.drop zs.length : List Int) = zs ++ [0] := by
        rw [List.take_of_length_le (by simp), List.drop_of_length_le (Nat.le_refl _), List.append_nil]
      rw [e]
      exact h
theorem put_form {w : World} {B g c k : Nat} {zs : List Int} (h : OwnI w B (.slice (some ⟨g, 0, none⟩) (zs.length + 1) c) ((zs ++ [0]).take (k + 1) ++ zs.drop k)) (hk : k ≤ zs.length) :
    w.ownsRow B 3 1 (.slice (some ⟨g, 0, none⟩) (zs.length + 1) c) (zs.length + 1) (ints ((zs ++ [0]).take (k + 1) ++ zs.drop k)) := by
  unfold OwnI at h
  rwa [put_len hk] at h
theorem put_cell {w : World} {B g c k : Nat} {zs : List Int} (h : OwnI w B (.slice (some ⟨g, 0, none⟩) (zs.length + 1) c) ((zs ++ [0]).take (k + 1) ++ zs.drop k)) (hk : k ≤ zs.length) :
    ∃ u, w.cell? ⟨g, k, none⟩ = some u ∧ w.frozen? ⟨g, k, none⟩ = false := by
  have h1 := put_form h hk
  refine ⟨_, (World.ownsRow.cellAt h1 k (by omega)).trans (List.getElem?_eq_getElem (by rw [List.length_map, put_len hk]; omega)), World.ownsRow.frozenAt h1 k⟩
theorem put_done {w : World} {B g c k : Nat} {x : Int} {zs : List Int} (h : OwnI w B (.slice (some ⟨g, 0, none⟩) (zs.length + 1) c) ((zs ++ [0]).take (k + 1) ++ zs.drop k)) (hk : k ≤ zs.length) :
    OwnI (w.setCell ⟨g, k, none⟩ (.int .i64 x)) B (.slice (some ⟨g, 0, none⟩) (zs.length + 1) c) (zs.take k ++ x :: zs.drop k) := by
  have h1 := (World.ownsRow.stored (put_form h hk) k (.int .i64 x)).1
  have e : (zs ++ [0]).take (k + 1) = zs.take k ++ [(zs ++ [0])[k]'(by simp; omega)] := by
    rw [List.take_succ_eq_append_getElem (by simp; omega), List.take_append_of_le_length hk]
  have e2 : (ints ((zs ++ [0]).take (k + 1) ++ zs.drop k)).set k (.int .i64 x) = ints (zs.take k ++ x :: zs.drop k) := by
    have e3 : (ints (zs.take k)).length = k := by simp; omega
    rw [e, List.append_assoc, List.singleton_append, ints, List.map_append, List.set_append_right _ _ (by rw [e3]; exact Nat.le_refl _), e3, Nat.sub_self, List.map_cons, List.set_cons_zero, ints, List.map_append, List.map_cons]
  rw [e2] at h1
  unfold OwnI
  rw [show (zs.take k ++ x :: zs.drop k).length = zs.length + 1 by rw [List.length_append, List.length_cons, List.length_take, List.length_drop]; omega]
  exact h1
/-- A number has been put into a row. -/
def PutRes (B : Nat) (v : Value) (zs : List Int) (x : Int) (w : World) (e : Ending) (w' : World) : Prop := ∃ v' res, e = .returned v' ∧ OwnI w' B v' res ∧ Gr v v' w w' ∧ PutOf zs x res

set_option maxHeartbeats 4000000 in
theorem put_any (v : Value) (zs : List Int) (x : Int) (B : Nat) (w : World) (hB : B ≤ w.heap.size) (ho : OwnI w B v zs) (hl : zs.length ≤ 5000000000) :
    Calls Try.prog 92 #[v, .int .i64 x] w (PutRes B v zs x w) := by
  obtain ⟨A, c0, hv, hcap, hcm, hi⟩ := ho.is
  have HI := hid hi
  have HO := hid ho
  have HV := hid hv
  obtain ⟨n, hn⟩ : ∃ n, n = zs.length := ⟨_, rfl⟩
  rw [← hn] at hv hl
  have HN := hid hn
  have hnl := hl
  clear ho hi hn hcap hcm
  subst hv
  go_enter Try.func92, Try.ntmps92
  go_wp2_with fail
  go_loop [5] (fun s5 => ∃ k : Nat, k ≤ n ∧ s5 = .int .i64 k ∧ Hid (∀ z ∈ zs.take k, z < x)) (fun s5 => n - (intOf s5).toNat)
  case atStart => exact ⟨0, Nat.zero_le _, rfl, hid (fun z hz => by simp at hz)⟩
  case round =>
    obtain ⟨k, hk, rfl, HS⟩ := hrel
    by_cases hlt : k < n
    · have hlz : k < zs.length := by rw [← HN.out]; exact hlt
      obtain ⟨gz, rfl, hg0, hcell⟩ := HI.out.at_ hlz
      have HS1 : Hid (zs[k] < x → ∀ z ∈ zs.take (k + 1), z < x) := hid (fun h z hz => by
        rw [List.take_succ_eq_append_getElem hlz] at hz
        rcases List.mem_append.1 hz with hz | hz
        · exact HS.out z hz
        · rw [List.mem_singleton] at hz; subst hz; exact h)
      have HLT0 : Hid (x < zs[k] → ∀ z, zs[k]? = some z → x < z) := hid (fun h z hz => by
        rw [List.getElem?_eq_getElem hlz] at hz; cases hz; exact h)
      have HEQ0 : Hid (zs[k] = x → x ∈ zs) := hid (fun h => h ▸ List.getElem_mem hlz)
      generalize zs[k] = z at hcell HS1 HLT0 HEQ0
      by_cases h1 : z < x
      · have HS2 := hid (HS1.out h1)
        clear HS1 HLT0 HEQ0
        go_wp2_with fail
        go_round
        case rel => exact ⟨k + 1, by omega, by go_num, HS2⟩
        case measure => simp [intOf]; omega
      · by_cases h2 : z = x
        · have HEQ := hid (HEQ0.out h2)
          rw [h2] at hcell
          clear HS1 HLT0 HEQ0 h2 h1
          go_wp2_with fail
          go_ret
          exact ⟨_, zs, rfl, HO.out, Gr.refl _ _, .inl ⟨HEQ.out, rfl⟩⟩
        · have HLT := hid (HLT0.out (by omega))
          have h2' : (z == x) = false := by simpa using h2
          clear HS1 HLT0 HEQ0 h2
          have hk0 : k ≤ zs.length := by rw [← HN.out]; exact hk
          obtain ⟨g, c, w3, h1, ho3, hg3⟩ := append_int (z := 0) (ty := 128) hB HO.out (by rw [← HN.out]; exact hl)
          go_upto_region 6 with fail
          rename_i Kn hKn
          refine wp_region_lit ?_
          refine sq_start (n := 49) rfl fun a0 hs0 => ?_
          have ha0 := (((((hs0.pin 0 (v := .slice (some ⟨gz, 0, none⟩) n c0) rfl).pin 1 (v := .int .i64 x) rfl).pin 2 (v := undef) rfl).pin 3 (v := undef) rfl).pin 5 (v := .int .i64 (k : Int)) rfl)
          clear hs0
          generalize (fun i => Array.getD _ i undef) = g0 at ha0
          refine sq_val (v := .slice (some ⟨gz, 0, none⟩) n c0) ha0 rfl (rfl) fun a1 ha1 => ?_
          refine sq_val (v := .slice (some ⟨w.heap.size, 0, none⟩) 1 1) ha1 rfl (run_litI rfl) fun a2 ha2 => ?_
          refine sq_val (v := .slice (some ⟨g, 0, none⟩) (zs.length + 1) c) ha2 rfl (run_append rfl rfl h1) fun a3 ha3 => ?_
          refine sq_val (v := .slice (some ⟨g, 0, none⟩) (zs.length + 1) c) ha3 rfl (rfl) fun a4 ha4 => ?_
          refine wpList_nil ?_
          refine hKn _ _ ?_
          obtain ⟨g9, hg9, k0, k1, k5⟩ : ∃ g9, Is a4 49 g9 ∧ g9 0 = .slice (some ⟨g, 0, none⟩) (zs.length + 1) c ∧ g9 1 = .int .i64 x ∧ g9 5 = .int .i64 (k : Int) := ⟨_, ha4, rfl, rfl, rfl⟩
          have hw := hg9.whole
          rw [show ((List.range 49).map g9).toArray = #[g9 0, g9 1, g9 2, g9 3, g9 4, g9 5, g9 6, g9 7, g9 8, g9 9, g9 10, g9 11, g9 12, g9 13, g9 14, g9 15, g9 16, g9 17, g9 18, g9 19, g9 20, g9 21, g9 22, g9 23, g9 24, g9 25, g9 26, g9 27, g9 28, g9 29, g9 30, g9 31, g9 32, g9 33, g9 34, g9 35, g9 36, g9 37, g9 38, g9 39, g9 40, g9 41, g9 42, g9 43, g9 44, g9 45, g9 46, g9 47, g9 48] from rfl] at hw
          rw [k0, k1, k5] at hw
          subst hw
          clear hg9 k0 k1 k5
          clear ha0 ha1 ha2 ha3 ha4 hKn Kn
          have HG3 := hid hg3
          obtain ⟨hc0, hgl, hc1⟩ := own_at (n := zs.length + 1) (by have := ho3; unfold OwnI at this; rw [List.length_append] at this; exact this)
          have hc2 : c ≤ maxLen := own_cap (by have := ho3; unfold OwnI at this; rw [List.length_append] at this; exact this)
          obtain ⟨w4, hcp, ho4, hg4⟩ := put_copy (ty := 3) ho3 hk0
          clear h1 ho3 hg3
          go_upto_region 7 with fail
          rename_i Kn hKn
          refine F2.wp_region_fan 7 [] (F2.Ex (fun _ => w3.drew)) (by kernel_rfl) (by kernel_rfl) (by kernel_rfl) rfl ?_
          simp only [List.take_succ_cons, List.take_zero, List.drop_succ_cons, List.drop_zero]
          refine F2.WalksE.sound _ _ _ _ ?_ ((((Is.start _ (n := 49) rfl).pin 0 (v := .slice (some ⟨g, 0, none⟩) (zs.length + 1) c) rfl).pin 1 (v := .int .i64 x) rfl).pin 5 (v := .int .i64 (k : Int)) rfl)
          generalize (fun i => Array.getD _ i undef) = g0
          refine F2.walks_with fun KQ hKQ => ?_
          (refine F2.walks_one fun K hK => ?_); refine F2.st_pure (v := .slice (some ⟨g, 0, none⟩) (zs.length + 1) c) rfl rfl (fun _ => rfl) ?_; refine hK _ ?_; clear hK K
          (refine F2.walks_one fun K hK => ?_); refine F2.st_pure (v := .int .i64 (k : Int)) rfl rfl (fun _ => rfl) ?_; refine hK _ ?_; clear hK K
          (refine F2.walks_one fun K hK => ?_); refine F2.st_pure (v := .int .i64 ((k + 1 : Nat) : Int)) rfl rfl (fun _ => (run_add rfl rfl (by unfold Rg; omega)).trans (int_is (by omega))) ?_; refine hK _ ?_; clear hK K
          (refine F2.walks_one fun K hK => ?_); refine F2.st_pure (v := .slice (some (if c = k + 1 then ⟨g, 0, none⟩ else (⟨g, 0, none⟩ : Addr).add (k + 1))) (zs.length + 1 - (k + 1)) (c - (k + 1))) rfl rfl (fun _ => run_slLo rfl rfl (by omega) hc1 hc2) ?_; refine hK _ ?_; clear hK K
          (refine F2.walks_one fun K hK => ?_); refine F2.st_pure (v := .slice (some ⟨g, 0, none⟩) (zs.length + 1) c) rfl rfl (fun _ => rfl) ?_; refine hK _ ?_; clear hK K
          (refine F2.walks_one fun K hK => ?_); refine F2.st_pure (v := .int .i64 (k : Int)) rfl rfl (fun _ => rfl) ?_; refine hK _ ?_; clear hK K
          (refine F2.walks_one fun K hK => ?_); refine F2.st_pure (v := .slice (some (if c = k then ⟨g, 0, none⟩ else (⟨g, 0, none⟩ : Addr).add k)) (zs.length + 1 - k) (c - k)) rfl rfl (fun _ => run_slLo rfl rfl (by omega) hc1 hc2) ?_; refine hK _ ?_; clear hK K
          refine F2.walks_end fun a9 ha9 => hKQ _ fun w1 hC => ?_
          have hw1 : w1 = w3.drew := hC
          subst hw1
          refine sq_val (v := .int .i64 ((zs.length - k : Nat) : Int)) ha9 rfl (run_copyB rfl rfl hcp) fun a10 ha10 => ?_
          refine wpList_nil ?_
          refine hKn _ _ ?_
          obtain ⟨g9, hg9, k0, k1, k5⟩ : ∃ g9, Is a10 49 g9 ∧ g9 0 = .slice (some ⟨g, 0, none⟩) (zs.length + 1) c ∧ g9 1 = .int .i64 x ∧ g9 5 = .int .i64 (k : Int) := ⟨_, ha10, rfl, rfl, rfl⟩
          have hw := hg9.whole
          rw [show ((List.range 49).map g9).toArray = #[g9 0, g9 1, g9 2, g9 3, g9 4, g9 5, g9 6, g9 7, g9 8, g9 9, g9 10, g9 11, g9 12, g9 13, g9 14, g9 15, g9 16, g9 17, g9 18, g9 19, g9 20, g9 21, g9 22, g9 23, g9 24, g9 25, g9 26, g9 27, g9 28, g9 29, g9 30, g9 31, g9 32, g9 33, g9 34, g9 35, g9 36, g9 37, g9 38, g9 39, g9 40, g9 41, g9 42, g9 43, g9 44, g9 45, g9 46, g9 47, g9 48] from rfl] at hw
          rw [k0, k1, k5] at hw
          subst hw
          clear hg9 k0 k1 k5
          clear ha9 ha10 hKQ KQ hKn Kn
          obtain ⟨u0, d0, d1⟩ := put_cell ho4 hk0
          have HO4 := hid ho4
          have HG4 := hid hg4
          clear hcp ho4 hg4
          have hkc : (k : Int) < ((zs.length + 1 : Nat) : Int) := by omega
          go_wp2_with fail
          go_ret
          exact ⟨.slice (some ⟨g, 0, none⟩) (zs.length + 1) c, zs.take k ++ x :: zs.drop k, rfl, put_done HO4.out hk0, HG3.out.trans ((Gr.trans HG4.out Gr.set)), .inr ⟨k, hk0, HS.out, HLT.out, rfl⟩⟩
    · have HLT : Hid (∀ z, zs[k]? = some z → x < z) := hid (fun z hz => by rw [List.getElem?_eq_none (by rw [← HN.out]; omega)] at hz; cases hz)
      have hltb : decide ((k : Int) < (n : Int)) = false := decide_eq_false (by omega)
      have hk0 : k ≤ zs.length := by rw [← HN.out]; exact hk
      obtain ⟨g, c, w3, h1, ho3, hg3⟩ := append_int (z := 0) (ty := 128) hB HO.out (by rw [← HN.out]; exact hl)
      go_upto_region 6 with fail
      rename_i Kn hKn
      refine wp_region_lit ?_
      refine sq_start (n := 49) rfl fun a0 hs0 => ?_
      have ha0 := (((((hs0.pin 0 (v := .slice A n c0) rfl).pin 1 (v := .int .i64 x) rfl).pin 2 (v := undef) rfl).pin 3 (v := undef) rfl).pin 5 (v := .int .i64 (k : Int)) rfl)
      clear hs0
      generalize (fun i => Array.getD _ i undef) = g0 at ha0
      refine sq_val (v := .slice A n c0) ha0 rfl (rfl) fun a1 ha1 => ?_
      refine sq_val (v := .slice (some ⟨w.heap.size, 0, none⟩) 1 1) ha1 rfl (run_litI rfl) fun a2 ha2 => ?_
      refine sq_val (v := .slice (some ⟨g, 0, none⟩) (zs.length + 1) c) ha2 rfl (run_append rfl rfl h1) fun a3 ha3 => ?_
      refine sq_val (v := .slice (some ⟨g, 0, none⟩) (zs.length + 1) c) ha3 rfl (rfl) fun a4 ha4 => ?_
      refine wpList_nil ?_
      refine hKn _ _ ?_
      obtain ⟨g9, hg9, k0, k1, k5⟩ : ∃ g9, Is a4 49 g9 ∧ g9 0 = .slice (some ⟨g, 0, none⟩) (zs.length + 1) c ∧ g9 1 = .int .i64 x ∧ g9 5 = .int .i64 (k : Int) := ⟨_, ha4, rfl, rfl, rfl⟩
      have hw := hg9.whole
      rw [show ((List.range 49).map g9).toArray = #[g9 0, g9 1, g9 2, g9 3, g9 4, g9 5, g9 6, g9 7, g9 8, g9 9, g9 10, g9 11, g9 12, g9 13, g9 14, g9 15, g9 16, g9 17, g9 18, g9 19, g9 20, g9 21, g9 22, g9 23, g9 24, g9 25, g9 26, g9 27, g9 28, g9 29, g9 30, g9 31, g9 32, g9 33, g9 34, g9 35, g9 36, g9 37, g9 38, g9 39, g9 40, g9 41, g9 42, g9 43, g9 44, g9 45, g9 46, g9 47, g9 48] from rfl] at hw
      rw [k0, k1, k5] at hw
      subst hw
      clear hg9 k0 k1 k5
      clear ha0 ha1 ha2 ha3 ha4 hKn Kn
      have HG3 := hid hg3
      obtain ⟨hc0, hgl, hc1⟩ := own_at (n := zs.length + 1) (by have := ho3; unfold OwnI at this; rw [List.length_append] at this; exact this)
      have hc2 : c ≤ maxLen := own_cap (by have := ho3; unfold OwnI at this; rw [List.length_append] at this; exact this)
      obtain ⟨w4, hcp, ho4, hg4⟩ := put_copy (ty := 3) ho3 hk0
      clear h1 ho3 hg3
      go_upto_region 7 with fail
      rename_i Kn hKn
      refine F2.wp_region_fan 7 [] (F2.Ex (fun _ => w3.drew)) (by kernel_rfl) (by kernel_rfl) (by kernel_rfl) rfl ?_
      simp only [List.take_succ_cons, List.take_zero, List.drop_succ_cons, List.drop_zero]
      refine F2.WalksE.sound _ _ _ _ ?_ ((((Is.start _ (n := 49) rfl).pin 0 (v := .slice (some ⟨g, 0, none⟩) (zs.length + 1) c) rfl).pin 1 (v := .int .i64 x) rfl).pin 5 (v := .int .i64 (k : Int)) rfl)
      generalize (fun i => Array.getD _ i undef) = g0
      refine F2.walks_with fun KQ hKQ => ?_
      (refine F2.walks_one fun K hK => ?_); refine F2.st_pure (v := .slice (some ⟨g, 0, none⟩) (zs.length + 1) c) rfl rfl (fun _ => rfl) ?_; refine hK _ ?_; clear hK K
      (refine F2.walks_one fun K hK => ?_); refine F2.st_pure (v := .int .i64 (k : Int)) rfl rfl (fun _ => rfl) ?_; refine hK _ ?_; clear hK K
      (refine F2.walks_one fun K hK => ?_); refine F2.st_pure (v := .int .i64 ((k + 1 : Nat) : Int)) rfl rfl (fun _ => (run_add rfl rfl (by unfold Rg; omega)).trans (int_is (by omega))) ?_; refine hK _ ?_; clear hK K
      (refine F2.walks_one fun K hK => ?_); refine F2.st_pure (v := .slice (some (if c = k + 1 then ⟨g, 0, none⟩ else (⟨g, 0, none⟩ : Addr).add (k + 1))) (zs.length + 1 - (k + 1)) (c - (k + 1))) rfl rfl (fun _ => run_slLo rfl rfl (by omega) hc1 hc2) ?_; refine hK _ ?_; clear hK K
      (refine F2.walks_one fun K hK => ?_); refine F2.st_pure (v := .slice (some ⟨g, 0, none⟩) (zs.length + 1) c) rfl rfl (fun _ => rfl) ?_; refine hK _ ?_; clear hK K
      (refine F2.walks_one fun K hK => ?_); refine F2.st_pure (v := .int .i64 (k : Int)) rfl rfl (fun _ => rfl) ?_; refine hK _ ?_; clear hK K
      (refine F2.walks_one fun K hK => ?_); refine F2.st_pure (v := .slice (some (if c = k then ⟨g, 0, none⟩ else (⟨g, 0, none⟩ : Addr).add k)) (zs.length + 1 - k) (c - k)) rfl rfl (fun _ => run_slLo rfl rfl (by omega) hc1 hc2) ?_; refine hK _ ?_; clear hK K
      refine F2.walks_end fun a9 ha9 => hKQ _ fun w1 hC => ?_
      have hw1 : w1 = w3.drew := hC
      subst hw1
      refine sq_val (v := .int .i64 ((zs.length - k : Nat) : Int)) ha9 rfl (run_copyB rfl rfl hcp) fun a10 ha10 => ?_
      refine wpList_nil ?_
      refine hKn _ _ ?_
      obtain ⟨g9, hg9, k0, k1, k5⟩ : ∃ g9, Is a10 49 g9 ∧ g9 0 = .slice (some ⟨g, 0, none⟩) (zs.length + 1) c ∧ g9 1 = .int .i64 x ∧ g9 5 = .int .i64 (k : Int) := ⟨_, ha10, rfl, rfl, rfl⟩
      have hw := hg9.whole
      rw [show ((List.range 49).map g9).toArray = #[g9 0, g9 1, g9 2, g9 3, g9 4, g9 5, g9 6, g9 7, g9 8, g9 9, g9 10, g9 11, g9 12, g9 13, g9 14, g9 15, g9 16, g9 17, g9 18, g9 19, g9 20, g9 21, g9 22, g9 23, g9 24, g9 25, g9 26, g9 27, g9 28, g9 29, g9 30, g9 31, g9 32, g9 33, g9 34, g9 35, g9 36, g9 37, g9 38, g9 39, g9 40, g9 41, g9 42, g9 43, g9 44, g9 45, g9 46, g9 47, g9 48] from rfl] at hw
      rw [k0, k1, k5] at hw
      subst hw
      clear hg9 k0 k1 k5
      clear ha9 ha10 hKQ KQ hKn Kn
      obtain ⟨u0, d0, d1⟩ := put_cell ho4 hk0
      have HO4 := hid ho4
      have HG4 := hid hg4
      clear hcp ho4 hg4
      have hkc : (k : Int) < ((zs.length + 1 : Nat) : Int) := by omega
      go_wp2_with fail
      go_ret
      exact ⟨.slice (some ⟨g, 0, none⟩) (zs.length + 1) c, zs.take k ++ x :: zs.drop k, rfl, put_done HO4.out hk0, HG3.out.trans ((Gr.trans HG4.out Gr.set)), .inr ⟨k, hk0, HS.out, HLT.out, rfl⟩⟩

end Go.Proofs.Ytijkoaggcmgjiaa
