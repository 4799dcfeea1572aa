/- What the reference's PathText returns. -/
import Derived.Test.YtijkoaggcmgjiabDoorDec
import Derived.Test.YtijkoaggcmgjiabDoorText
namespace Go.Proofs.YtijkoaggcmgjiabDoor
open Go Go.RowKit
set_option linter.unusedVariables false
set_option linter.unusedSimpArgs false

theorem joinTail_snoc (sep : List UInt8) (r : List (List UInt8)) (y : List UInt8) : Lib.joinTail sep (r ++ [y]) = Lib.joinTail sep r ++ (sep ++ y) := by simp [Lib.joinTail]
theorem text_first (ss : List Sg) (h : 0 < ss.length) : textOf (ss.take (0 + 1)) = segT ss[0] := by
  unfold textOf
  rw [List.take_succ_eq_append_getElem h, List.take_zero, List.nil_append, List.map_cons, List.map_nil, Lib.join_one]
theorem text_next (ss : List Sg) (j : Nat) (h : j < ss.length) (h0 : 0 < j) : textOf (ss.take (j + 1)) = textOf (ss.take j) ++ [32] ++ segT ss[j] := by
  unfold textOf
  rw [List.take_succ_eq_append_getElem h, List.map_append]
  cases ss with
  | nil => simp at h
  | cons g r =>
    obtain ⟨i, rfl⟩ : ∃ i, j = i + 1 := ⟨j - 1, by omega⟩
    rw [List.take_succ_cons, List.map_cons, List.cons_append, Lib.join_cons, Lib.join_cons]
    rw [show List.map segT [(g :: r)[i + 1]] = [segT (g :: r)[i + 1]] from rfl, joinTail_snoc]
    simp

section
variable {P : Program} {ρ : Operand → Value} {dst : Option Tmp} {ty : TypeId} {pos : String} {af : Array Edge} {x y : Operand} {w : World} {gd : Option (Nat × Bool)}
theorem run_addS {a b : List UInt8} (hx : ρ x = .string (S a)) (hy : ρ y = .string (S b)) (h : a.length + b.length ≤ 1000000) :
    (execOp ρ { dst := dst, op := .binOp .add 9 x y 9, type := ty, pos := pos, after := af, guard := gd }).run Tryd.prog w = .ok (.value (.string (S (a ++ b)))) w := by
  have h1 : (S a).size ≤ 1000000 := by rw [S_size]; omega
  have h2 : (S b).size ≤ 1000000 := by rw [S_size]; omega
  have h3 : (S a).size + (S b).size ≤ 9223372036854775807 := by omega
  rw [← S_append]
  go_simp
theorem run_fld {a : Addr} {i : Nat} (hi : i < 6) (hx : ρ x = .pointer (some a)) :
    (execOp ρ { dst := dst, op := .fieldAddr 38 x i, type := ty, pos := pos, after := af, guard := gd }).run Tryd.prog w = .ok (.value (.pointer (some (a.add i)))) w := by
  have hi' : i = 0 ∨ i = 1 ∨ i = 2 ∨ i = 3 ∨ i = 4 ∨ i = 5 := by omega
  rcases hi' with rfl | rfl | rfl | rfl | rfl | rfl
  all_goals go_simp
end
theorem enters_dec : Enters Tryd.prog 14 := enters_of Tryd.func14 (by kernel_rfl) rfl
theorem dec_over {W : World} {u : Value} {z : Int} {g : Bool} {w : World} (h : Over W g w) (hu : u = .int .i64 z) (hz : -9223372036854775807 ≤ z ∧ z ≤ 9223372036854775807) : Calls Tryd.prog 14 #[u] w fun r w' => r = .returned (.string (S (Lib.itoa z))) ∧ Over W g w' := by
  subst hu
  exact (decimal_any _ hz.1 hz.2 w).mono fun r w' ⟨hr, hb⟩ => ⟨hr, hb ▸ h⟩

set_option maxHeartbeats 3200000 in
theorem rtext_any (A : Option Addr) (ss : List Sg) (n c : Nat) (w : World) (hn : n = ss.length) (hs : Segs w A ss) (hl : ss.length ≤ 1000) (hk : ∀ s ∈ ss, Okay s) :
    Calls Tryd.prog 6 #[.slice A n c] w fun e w' => e = .returned (.string (S (textOf ss))) ∧ Below w.heap.size w w' := by
  have HS := hid hs
  have HK := hid hk
  subst hn
  clear hs hk
  go_enter Tryd.func6, Tryd.ntmps6
  go_wp2_with fail
  go_loopw [3, 8] (fun s3 s8 wr => ∃ j : Nat, j ≤ ss.length ∧ s8 = .int .i64 j ∧ s3 = .string (S (textOf (ss.take j))) ∧ Hid (Below w.heap.size w wr)) (fun _ s8 _ => ss.length - (intOf s8).toNat)
  case atStart => exact ⟨0, Nat.zero_le _, rfl, rfl, hid (Below.refl _ w)⟩
  case round =>
    obtain ⟨j, hj, rfl, rfl, HB⟩ := hrel
    by_cases hlt : j < ss.length
    · obtain ⟨a, rfl, hal, hsa⟩ := (HS.out.next HB.out).at_ hlt
      have hok := HK.out ss[j] (List.getElem_mem hlt)
      have hpre : (textOf (ss.take j)).length ≤ 112000 := by
        have := textOf_length (ss.take j) fun s hs => (HK.out s (List.mem_of_mem_take hs)).fit
        rw [List.length_take] at this
        omega
      have HT0 := hid (show 0 = j → textOf (ss.take (j + 1)) = segT ss[j] from fun h => by subst h; exact text_first ss hlt)
      have HT1 := hid (text_next ss j hlt)
      generalize ss[j] = g at hsa hok HT0 HT1
      have hpre0 : 0 = j → textOf (ss.take j) = [] := fun h => by subst h; rfl
      generalize textOf (ss.take j) = pre at hpre HT1 hpre0
      have hcs := hsa
      obtain ⟨c0, c1, c2, c3, c4, c5⟩ := hcs
      rcases Nat.eq_zero_or_pos j with hj0 | hj0
      · replace hpre0 := hpre0 hj0.symm
        have hjz : decide (0 < j) = false := by simp [hj0]
        have HE0 := hid (show textOf (ss.take (j + 1)) = pre ++ segT g from by rw [HT0.out hj0.symm, hpre0]; rfl)
        obtain ⟨W1, hW⟩ : ∃ W1, W1 = wr.alloc (.cells (cel g) 38) := ⟨_, rfl⟩
        have HV := hid (show Var W1 wr.heap.size (cel g) 38 by rw [hW]; exact Var.new _ _ _ _ rfl)
        have HB1 := hid (show Below w.heap.size w W1 by rw [hW]; exact HB.out.alloc HB.out.size _)
        have hsz : (S pre).size ≤ 112000 := by rw [S_size]; exact hpre
        obtain ⟨hx, hy, hu, hv, hw⟩ := hok.fit
        have Hx := hid (show -9223372036854775807 ≤ g.x ∧ g.x ≤ 9223372036854775807 by have := wi4.1 hok.r; omega)
        have Hy := hid (show -9223372036854775807 ≤ g.y ∧ g.y ≤ 9223372036854775807 by have := wi4.1 hok.r; omega)
        have Hu := hid (show -9223372036854775807 ≤ g.u ∧ g.u ≤ 9223372036854775807 by have := wi4.1 hok.r; omega)
        have Hv := hid (show -9223372036854775807 ≤ g.v ∧ g.v ≤ 9223372036854775807 by have := wi4.1 hok.r; omega)
        have Hw := hid (show g.k = 3 → -9223372036854775807 ≤ g.w ∧ g.w ≤ 9223372036854775807 from fun h => by have := hok.w h; omega)
        have lx := Lib.itoa_length_le g.x hx.1 hx.2
        have ly := Lib.itoa_length_le g.y hy.1 hy.2
        have lu := Lib.itoa_length_le g.u hu.1 hu.2
        have lv := Lib.itoa_length_le g.v hv.1 hv.2
        have lw := Lib.itoa_length_le g.w hw.1 hw.2
        have hk1 := hok.k.1
        have hk2 := hok.k.2
        clear hx hy hu hv hw hok HT0 HT1 hj0 hpre0
        by_cases hg1 : g.k = 1
        · have HE := hid (show textOf (ss.take (j + 1)) = pre ++ ((([109, 32] ++ Lib.itoa g.x) ++ [32]) ++ Lib.itoa g.y) by rw [HE0.out]; unfold segT words; simp [hg1])
          have hb1 : (g.k == 1) = true := by simp [hg1]
          clear hg1
          go_upto_region 11 with fail
          rw [← hW]
          clear hW
          rename_i Kn hKn
          refine wp_region_fan 11 1000 (Over W1) (by kernel_rfl) (by kernel_rfl) (Over.start W1) ?_
          simp only [List.take_succ_cons, List.take_zero, List.drop_succ_cons, List.drop_zero]
          have LC := fun b w1 (h : Over W1 b w1) => Over.seg HV.out.segAt HV.out.lt h
          have LC1 := fun b w1 (h : Over W1 b w1) => (Over.seg HV.out.segAt HV.out.lt h).c1
          have LC2 := fun b w1 (h : Over W1 b w1) => (Over.seg HV.out.segAt HV.out.lt h).c2
          have LC3 := fun b w1 (h : Over W1 b w1) => (Over.seg HV.out.segAt HV.out.lt h).c3
          have LC4 := fun b w1 (h : Over W1 b w1) => (Over.seg HV.out.segAt HV.out.lt h).c4
          have LC5 := fun b w1 (h : Over W1 b w1) => (Over.seg HV.out.segAt HV.out.lt h).c5
          refine WalksE.sound _ _ _ _ ?_ (((((((((((Is.start _ (n := 79) rfl).pin 0 (v := .slice (some a) ss.length c) rfl).pin 1 (v := undef) rfl).pin 2 (v := .string ⟨#[]⟩) rfl).pin 3 (v := .string (S pre)) rfl).pin 4 (v := .int .i64 j) rfl).pin 5 (v := .pointer (some ⟨wr.heap.size, 0, none⟩)) rfl).pin 6 (v := .slice (some a) ss.length c) rfl).pin 7 (v := .int .i64 ss.length) rfl).pin 8 (v := .int .i64 j) rfl).pin 78 (v := undef) rfl)
          generalize (fun i => Array.getD _ i undef) = g0
          refine walks_with fun KQ hKQ => ?_
          (refine walks_one fun K hK => ?_); refine st_pure rfl rfl (fun _ => rfl) ?_; refine hK _ ?_; clear hK K
          (refine walks_one fun K hK => ?_); refine st_pure rfl rfl (fun _ => run_fld (by omega) rfl) ?_; refine hK _ ?_; clear hK K
          (refine walks_one fun K hK => ?_); refine st_loadFld LC1 rfl rfl rfl ?_; refine hK _ ?_; clear hK K
          (refine walks_one fun K hK => ?_); refine st_call rfl rfl (fun _ => run_call1 rfl enters_dec) (fun _ _ h => dec_over h rfl Hx.out) ?_; refine hK _ ?_; clear hK K
          (refine walks_one fun K hK => ?_); refine st_pure rfl rfl (fun _ => run_addS (a := [109, 32]) (b := Lib.itoa g.x) rfl rfl (by simp; omega)) ?_; refine hK _ ?_; clear hK K
          (refine walks_one fun K hK => ?_); refine st_pure rfl rfl (fun _ => run_addS (b := [32]) rfl rfl (by simp; omega)) ?_; refine hK _ ?_; clear hK K
          (refine walks_one fun K hK => ?_); refine st_pure rfl rfl (fun _ => run_fld (by omega) rfl) ?_; refine hK _ ?_; clear hK K
          (refine walks_one fun K hK => ?_); refine st_loadFld LC2 rfl rfl rfl ?_; refine hK _ ?_; clear hK K
          (refine walks_one fun K hK => ?_); refine st_call rfl rfl (fun _ => run_call1 rfl enters_dec) (fun _ _ h => dec_over h rfl Hy.out) ?_; refine hK _ ?_; clear hK K
          (refine walks_one fun K hK => ?_); refine st_pure rfl rfl (fun _ => run_addS (b := Lib.itoa g.y) rfl rfl (by simp; omega)) ?_; refine hK _ ?_; clear hK K
          (refine walks_one fun K hK => ?_); refine st_pure rfl rfl (fun _ => run_addS (a := pre) rfl rfl (by simp; omega)) ?_; refine hK _ ?_; clear hK K
          refine walks_end fun a9 ha9 => hKQ _ fun w1 hC => ?_
          have e90 : a9.eval (Operand.tmp 35) = .string (S (pre ++ ((([109, 32] ++ Lib.itoa g.x) ++ [32]) ++ Lib.itoa g.y))) := by rw [ha9.eval]; rfl
          refine tailB ?_
          refine hKn _ _ ?_
          rw [e90]
          obtain ⟨g9, hg9, k0, k1, k2, k4, k5, k6, k7, k8, k78, k3⟩ : ∃ g9, Is (a9.put (some 3) (.string (S (pre ++ ((([109, 32] ++ Lib.itoa g.x) ++ [32]) ++ Lib.itoa g.y))))) 79 g9 ∧ g9 0 = .slice (some a) ss.length c ∧ g9 1 = undef ∧ g9 2 = .string ⟨#[]⟩ ∧ g9 4 = .int .i64 j ∧ g9 5 = .pointer (some ⟨wr.heap.size, 0, none⟩) ∧ g9 6 = .slice (some a) ss.length c ∧ g9 7 = .int .i64 ss.length ∧ g9 8 = .int .i64 j ∧ g9 78 = undef ∧ g9 3 = .string (S (pre ++ ((([109, 32] ++ Lib.itoa g.x) ++ [32]) ++ Lib.itoa g.y))) := ⟨_, ha9.put (d := 3) (by decide) _, rfl, rfl, rfl, rfl, rfl, rfl, rfl, rfl, rfl, rfl⟩
          have hw := hg9.whole
          rw [show ((List.range 79).map g9).toArray = #[g9 0, g9 1, g9 2, g9 3, g9 4, g9 5, g9 6, g9 7, g9 8, g9 9, g9 10, g9 11, g9 12, g9 13, g9 14, g9 15, g9 16, g9 17, g9 18, g9 19, g9 20, g9 21, g9 22, g9 23, g9 24, g9 25, g9 26, g9 27, g9 28, g9 29, g9 30, g9 31, g9 32, g9 33, g9 34, g9 35, g9 36, g9 37, g9 38, g9 39, g9 40, g9 41, g9 42, g9 43, g9 44, g9 45, g9 46, g9 47, g9 48, g9 49, g9 50, g9 51, g9 52, g9 53, g9 54, g9 55, g9 56, g9 57, g9 58, g9 59, g9 60, g9 61, g9 62, g9 63, g9 64, g9 65, g9 66, g9 67, g9 68, g9 69, g9 70, g9 71, g9 72, g9 73, g9 74, g9 75, g9 76, g9 77, g9 78] from rfl] at hw
          rw [k0, k1, k2, k4, k5, k6, k7, k8, k78, k3] at hw
          rw [show (a9.put (some 3) _) = _ from hw]
          have HR := hid hC
          clear hw hC hg9 k0 k1 k2 k4 k5 k6 k7 k8 k78 k3 ha9 e90 hKQ KQ hKn LC LC1 LC2 LC3 LC4 LC5
          have HB2 := hid (below_next HB1.out HR.out)
          clear HR HV HB1
          go_wp2_with fail
          go_roundw
          case rel => exact ⟨j + 1, by omega, by go_num, (by rw [HE.out]; simp), HB2⟩
          case measure => simp [intOf]; omega
        · by_cases hg2 : g.k = 2
          · have HE := hid (show textOf (ss.take (j + 1)) = pre ++ ((([108, 32] ++ Lib.itoa g.x) ++ [32]) ++ Lib.itoa g.y) by rw [HE0.out]; unfold segT words; simp [hg1, hg2])
            have hb1 : (g.k == 1) = false := by simp [hg1]
            have hb2 : (g.k == 2) = true := by simp [hg2]
            clear hg1 hg2
            go_upto_region 13 with fail
            rw [← hW]
            clear hW
            rename_i Kn hKn
            refine wp_region_fan 11 1000 (Over W1) (by kernel_rfl) (by kernel_rfl) (Over.start W1) ?_
            simp only [List.take_succ_cons, List.take_zero, List.drop_succ_cons, List.drop_zero]
            have LC := fun b w1 (h : Over W1 b w1) => Over.seg HV.out.segAt HV.out.lt h
            have LC1 := fun b w1 (h : Over W1 b w1) => (Over.seg HV.out.segAt HV.out.lt h).c1
            have LC2 := fun b w1 (h : Over W1 b w1) => (Over.seg HV.out.segAt HV.out.lt h).c2
            have LC3 := fun b w1 (h : Over W1 b w1) => (Over.seg HV.out.segAt HV.out.lt h).c3
            have LC4 := fun b w1 (h : Over W1 b w1) => (Over.seg HV.out.segAt HV.out.lt h).c4
            have LC5 := fun b w1 (h : Over W1 b w1) => (Over.seg HV.out.segAt HV.out.lt h).c5
            refine WalksE.sound _ _ _ _ ?_ (((((((((((Is.start _ (n := 79) rfl).pin 0 (v := .slice (some a) ss.length c) rfl).pin 1 (v := undef) rfl).pin 2 (v := .string ⟨#[]⟩) rfl).pin 3 (v := .string (S pre)) rfl).pin 4 (v := .int .i64 j) rfl).pin 5 (v := .pointer (some ⟨wr.heap.size, 0, none⟩)) rfl).pin 6 (v := .slice (some a) ss.length c) rfl).pin 7 (v := .int .i64 ss.length) rfl).pin 8 (v := .int .i64 j) rfl).pin 78 (v := undef) rfl)
            generalize (fun i => Array.getD _ i undef) = g0
            refine walks_with fun KQ hKQ => ?_
            (refine walks_one fun K hK => ?_); refine st_pure rfl rfl (fun _ => rfl) ?_; refine hK _ ?_; clear hK K
            (refine walks_one fun K hK => ?_); refine st_pure rfl rfl (fun _ => run_fld (by omega) rfl) ?_; refine hK _ ?_; clear hK K
            (refine walks_one fun K hK => ?_); refine st_loadFld LC1 rfl rfl rfl ?_; refine hK _ ?_; clear hK K
            (refine walks_one fun K hK => ?_); refine st_call rfl rfl (fun _ => run_call1 rfl enters_dec) (fun _ _ h => dec_over h rfl Hx.out) ?_; refine hK _ ?_; clear hK K
            (refine walks_one fun K hK => ?_); refine st_pure rfl rfl (fun _ => run_addS (a := [108, 32]) (b := Lib.itoa g.x) rfl rfl (by simp; omega)) ?_; refine hK _ ?_; clear hK K
            (refine walks_one fun K hK => ?_); refine st_pure rfl rfl (fun _ => run_addS (b := [32]) rfl rfl (by simp; omega)) ?_; refine hK _ ?_; clear hK K
            (refine walks_one fun K hK => ?_); refine st_pure rfl rfl (fun _ => run_fld (by omega) rfl) ?_; refine hK _ ?_; clear hK K
            (refine walks_one fun K hK => ?_); refine st_loadFld LC2 rfl rfl rfl ?_; refine hK _ ?_; clear hK K
            (refine walks_one fun K hK => ?_); refine st_call rfl rfl (fun _ => run_call1 rfl enters_dec) (fun _ _ h => dec_over h rfl Hy.out) ?_; refine hK _ ?_; clear hK K
            (refine walks_one fun K hK => ?_); refine st_pure rfl rfl (fun _ => run_addS (b := Lib.itoa g.y) rfl rfl (by simp; omega)) ?_; refine hK _ ?_; clear hK K
            (refine walks_one fun K hK => ?_); refine st_pure rfl rfl (fun _ => run_addS (a := pre) rfl rfl (by simp; omega)) ?_; refine hK _ ?_; clear hK K
            refine walks_end fun a9 ha9 => hKQ _ fun w1 hC => ?_
            have e90 : a9.eval (Operand.tmp 48) = .string (S (pre ++ ((([108, 32] ++ Lib.itoa g.x) ++ [32]) ++ Lib.itoa g.y))) := by rw [ha9.eval]; rfl
            refine tailB ?_
            refine hKn _ _ ?_
            rw [e90]
            obtain ⟨g9, hg9, k0, k1, k2, k4, k5, k6, k7, k8, k78, k3⟩ : ∃ g9, Is (a9.put (some 3) (.string (S (pre ++ ((([108, 32] ++ Lib.itoa g.x) ++ [32]) ++ Lib.itoa g.y))))) 79 g9 ∧ g9 0 = .slice (some a) ss.length c ∧ g9 1 = undef ∧ g9 2 = .string ⟨#[]⟩ ∧ g9 4 = .int .i64 j ∧ g9 5 = .pointer (some ⟨wr.heap.size, 0, none⟩) ∧ g9 6 = .slice (some a) ss.length c ∧ g9 7 = .int .i64 ss.length ∧ g9 8 = .int .i64 j ∧ g9 78 = undef ∧ g9 3 = .string (S (pre ++ ((([108, 32] ++ Lib.itoa g.x) ++ [32]) ++ Lib.itoa g.y))) := ⟨_, ha9.put (d := 3) (by decide) _, rfl, rfl, rfl, rfl, rfl, rfl, rfl, rfl, rfl, rfl⟩
            have hw := hg9.whole
            rw [show ((List.range 79).map g9).toArray = #[g9 0, g9 1, g9 2, g9 3, g9 4, g9 5, g9 6, g9 7, g9 8, g9 9, g9 10, g9 11, g9 12, g9 13, g9 14, g9 15, g9 16, g9 17, g9 18, g9 19, g9 20, g9 21, g9 22, g9 23, g9 24, g9 25, g9 26, g9 27, g9 28, g9 29, g9 30, g9 31, g9 32, g9 33, g9 34, g9 35, g9 36, g9 37, g9 38, g9 39, g9 40, g9 41, g9 42, g9 43, g9 44, g9 45, g9 46, g9 47, g9 48, g9 49, g9 50, g9 51, g9 52, g9 53, g9 54, g9 55, g9 56, g9 57, g9 58, g9 59, g9 60, g9 61, g9 62, g9 63, g9 64, g9 65, g9 66, g9 67, g9 68, g9 69, g9 70, g9 71, g9 72, g9 73, g9 74, g9 75, g9 76, g9 77, g9 78] from rfl] at hw
            rw [k0, k1, k2, k4, k5, k6, k7, k8, k78, k3] at hw
            rw [show (a9.put (some 3) _) = _ from hw]
            have HR := hid hC
            clear hw hC hg9 k0 k1 k2 k4 k5 k6 k7 k8 k78 k3 ha9 e90 hKQ KQ hKn LC LC1 LC2 LC3 LC4 LC5
            have HB2 := hid (below_next HB1.out HR.out)
            clear HR HV HB1
            go_wp2_with fail
            go_roundw
            case rel => exact ⟨j + 1, by omega, by go_num, (by rw [HE.out]; simp), HB2⟩
            case measure => simp [intOf]; omega
          · by_cases hg3 : g.k = 3
            · have HE := hid (show textOf (ss.take (j + 1)) = pre ++ ((((((((([113, 32] ++ Lib.itoa g.u) ++ [32]) ++ Lib.itoa g.v) ++ [32]) ++ Lib.itoa g.x) ++ [32]) ++ Lib.itoa g.y) ++ [32]) ++ Lib.itoa g.w) by rw [HE0.out]; unfold segT words; simp [hg1, hg2, hg3])
              replace Hw := hid (Hw.out hg3)
              have hb1 : (g.k == 1) = false := by simp [hg1]
              have hb2 : (g.k == 2) = false := by simp [hg2]
              have hb3 : (g.k == 3) = true := by simp [hg3]
              clear hg1 hg2 hg3
              go_upto_region 15 with fail
              rw [← hW]
              clear hW
              rename_i Kn hKn
              refine wp_region_fan 26 1000 (Over W1) (by kernel_rfl) (by kernel_rfl) (Over.start W1) ?_
              simp only [List.take_succ_cons, List.take_zero, List.drop_succ_cons, List.drop_zero]
              have LC := fun b w1 (h : Over W1 b w1) => Over.seg HV.out.segAt HV.out.lt h
              have LC1 := fun b w1 (h : Over W1 b w1) => (Over.seg HV.out.segAt HV.out.lt h).c1
              have LC2 := fun b w1 (h : Over W1 b w1) => (Over.seg HV.out.segAt HV.out.lt h).c2
              have LC3 := fun b w1 (h : Over W1 b w1) => (Over.seg HV.out.segAt HV.out.lt h).c3
              have LC4 := fun b w1 (h : Over W1 b w1) => (Over.seg HV.out.segAt HV.out.lt h).c4
              have LC5 := fun b w1 (h : Over W1 b w1) => (Over.seg HV.out.segAt HV.out.lt h).c5
              refine WalksE.sound _ _ _ _ ?_ (((((((((((Is.start _ (n := 79) rfl).pin 0 (v := .slice (some a) ss.length c) rfl).pin 1 (v := undef) rfl).pin 2 (v := .string ⟨#[]⟩) rfl).pin 3 (v := .string (S pre)) rfl).pin 4 (v := .int .i64 j) rfl).pin 5 (v := .pointer (some ⟨wr.heap.size, 0, none⟩)) rfl).pin 6 (v := .slice (some a) ss.length c) rfl).pin 7 (v := .int .i64 ss.length) rfl).pin 8 (v := .int .i64 j) rfl).pin 78 (v := undef) rfl)
              generalize (fun i => Array.getD _ i undef) = g0
              refine walks_with fun KQ hKQ => ?_
              (refine walks_one fun K hK => ?_); refine st_pure rfl rfl (fun _ => rfl) ?_; refine hK _ ?_; clear hK K
              (refine walks_one fun K hK => ?_); refine st_pure rfl rfl (fun _ => run_fld (by omega) rfl) ?_; refine hK _ ?_; clear hK K
              (refine walks_one fun K hK => ?_); refine st_loadFld LC3 rfl rfl rfl ?_; refine hK _ ?_; clear hK K
              (refine walks_one fun K hK => ?_); refine st_call rfl rfl (fun _ => run_call1 rfl enters_dec) (fun _ _ h => dec_over h rfl Hu.out) ?_; refine hK _ ?_; clear hK K
              (refine walks_one fun K hK => ?_); refine st_pure rfl rfl (fun _ => run_addS (a := [113, 32]) (b := Lib.itoa g.u) rfl rfl (by simp; omega)) ?_; refine hK _ ?_; clear hK K
              (refine walks_one fun K hK => ?_); refine st_pure rfl rfl (fun _ => run_addS (b := [32]) rfl rfl (by simp; omega)) ?_; refine hK _ ?_; clear hK K
              (refine walks_one fun K hK => ?_); refine st_pure rfl rfl (fun _ => run_fld (by omega) rfl) ?_; refine hK _ ?_; clear hK K
              (refine walks_one fun K hK => ?_); refine st_loadFld LC4 rfl rfl rfl ?_; refine hK _ ?_; clear hK K
              (refine walks_one fun K hK => ?_); refine st_call rfl rfl (fun _ => run_call1 rfl enters_dec) (fun _ _ h => dec_over h rfl Hv.out) ?_; refine hK _ ?_; clear hK K
              (refine walks_one fun K hK => ?_); refine st_pure rfl rfl (fun _ => run_addS (b := Lib.itoa g.v) rfl rfl (by simp; omega)) ?_; refine hK _ ?_; clear hK K
              (refine walks_one fun K hK => ?_); refine st_pure rfl rfl (fun _ => run_addS (b := [32]) rfl rfl (by simp; omega)) ?_; refine hK _ ?_; clear hK K
              (refine walks_one fun K hK => ?_); refine st_pure rfl rfl (fun _ => run_fld (by omega) rfl) ?_; refine hK _ ?_; clear hK K
              (refine walks_one fun K hK => ?_); refine st_loadFld LC1 rfl rfl rfl ?_; refine hK _ ?_; clear hK K
              (refine walks_one fun K hK => ?_); refine st_call rfl rfl (fun _ => run_call1 rfl enters_dec) (fun _ _ h => dec_over h rfl Hx.out) ?_; refine hK _ ?_; clear hK K
              (refine walks_one fun K hK => ?_); refine st_pure rfl rfl (fun _ => run_addS (b := Lib.itoa g.x) rfl rfl (by simp; omega)) ?_; refine hK _ ?_; clear hK K
              (refine walks_one fun K hK => ?_); refine st_pure rfl rfl (fun _ => run_addS (b := [32]) rfl rfl (by simp; omega)) ?_; refine hK _ ?_; clear hK K
              (refine walks_one fun K hK => ?_); refine st_pure rfl rfl (fun _ => run_fld (by omega) rfl) ?_; refine hK _ ?_; clear hK K
              (refine walks_one fun K hK => ?_); refine st_loadFld LC2 rfl rfl rfl ?_; refine hK _ ?_; clear hK K
              (refine walks_one fun K hK => ?_); refine st_call rfl rfl (fun _ => run_call1 rfl enters_dec) (fun _ _ h => dec_over h rfl Hy.out) ?_; refine hK _ ?_; clear hK K
              (refine walks_one fun K hK => ?_); refine st_pure rfl rfl (fun _ => run_addS (b := Lib.itoa g.y) rfl rfl (by simp; omega)) ?_; refine hK _ ?_; clear hK K
              (refine walks_one fun K hK => ?_); refine st_pure rfl rfl (fun _ => run_addS (b := [32]) rfl rfl (by simp; omega)) ?_; refine hK _ ?_; clear hK K
              (refine walks_one fun K hK => ?_); refine st_pure rfl rfl (fun _ => run_fld (by omega) rfl) ?_; refine hK _ ?_; clear hK K
              (refine walks_one fun K hK => ?_); refine st_loadFld LC5 rfl rfl rfl ?_; refine hK _ ?_; clear hK K
              (refine walks_one fun K hK => ?_); refine st_call rfl rfl (fun _ => run_call1 rfl enters_dec) (fun _ _ h => dec_over h rfl Hw.out) ?_; refine hK _ ?_; clear hK K
              (refine walks_one fun K hK => ?_); refine st_pure rfl rfl (fun _ => run_addS (b := Lib.itoa g.w) rfl rfl (by simp; omega)) ?_; refine hK _ ?_; clear hK K
              (refine walks_one fun K hK => ?_); refine st_pure rfl rfl (fun _ => run_addS (a := pre) rfl rfl (by simp; omega)) ?_; refine hK _ ?_; clear hK K
              refine walks_end fun a9 ha9 => hKQ _ fun w1 hC => ?_
              have e90 : a9.eval (Operand.tmp 76) = .string (S (pre ++ ((((((((([113, 32] ++ Lib.itoa g.u) ++ [32]) ++ Lib.itoa g.v) ++ [32]) ++ Lib.itoa g.x) ++ [32]) ++ Lib.itoa g.y) ++ [32]) ++ Lib.itoa g.w))) := by rw [ha9.eval]; rfl
              refine tailB ?_
              refine hKn _ _ ?_
              rw [e90]
              obtain ⟨g9, hg9, k0, k1, k2, k4, k5, k6, k7, k8, k78, k3⟩ : ∃ g9, Is (a9.put (some 3) (.string (S (pre ++ ((((((((([113, 32] ++ Lib.itoa g.u) ++ [32]) ++ Lib.itoa g.v) ++ [32]) ++ Lib.itoa g.x) ++ [32]) ++ Lib.itoa g.y) ++ [32]) ++ Lib.itoa g.w))))) 79 g9 ∧ g9 0 = .slice (some a) ss.length c ∧ g9 1 = undef ∧ g9 2 = .string ⟨#[]⟩ ∧ g9 4 = .int .i64 j ∧ g9 5 = .pointer (some ⟨wr.heap.size, 0, none⟩) ∧ g9 6 = .slice (some a) ss.length c ∧ g9 7 = .int .i64 ss.length ∧ g9 8 = .int .i64 j ∧ g9 78 = undef ∧ g9 3 = .string (S (pre ++ ((((((((([113, 32] ++ Lib.itoa g.u) ++ [32]) ++ Lib.itoa g.v) ++ [32]) ++ Lib.itoa g.x) ++ [32]) ++ Lib.itoa g.y) ++ [32]) ++ Lib.itoa g.w))) := ⟨_, ha9.put (d := 3) (by decide) _, rfl, rfl, rfl, rfl, rfl, rfl, rfl, rfl, rfl, rfl⟩
              have hw := hg9.whole
              rw [show ((List.range 79).map g9).toArray = #[g9 0, g9 1, g9 2, g9 3, g9 4, g9 5, g9 6, g9 7, g9 8, g9 9, g9 10, g9 11, g9 12, g9 13, g9 14, g9 15, g9 16, g9 17, g9 18, g9 19, g9 20, g9 21, g9 22, g9 23, g9 24, g9 25, g9 26, g9 27, g9 28, g9 29, g9 30, g9 31, g9 32, g9 33, g9 34, g9 35, g9 36, g9 37, g9 38, g9 39, g9 40, g9 41, g9 42, g9 43, g9 44, g9 45, g9 46, g9 47, g9 48, g9 49, g9 50, g9 51, g9 52, g9 53, g9 54, g9 55, g9 56, g9 57, g9 58, g9 59, g9 60, g9 61, g9 62, g9 63, g9 64, g9 65, g9 66, g9 67, g9 68, g9 69, g9 70, g9 71, g9 72, g9 73, g9 74, g9 75, g9 76, g9 77, g9 78] from rfl] at hw
              rw [k0, k1, k2, k4, k5, k6, k7, k8, k78, k3] at hw
              rw [show (a9.put (some 3) _) = _ from hw]
              have HR := hid hC
              clear hw hC hg9 k0 k1 k2 k4 k5 k6 k7 k8 k78 k3 ha9 e90 hKQ KQ hKn LC LC1 LC2 LC3 LC4 LC5
              have HB2 := hid (below_next HB1.out HR.out)
              clear HR HV HB1
              go_wp2_with fail
              go_roundw
              case rel => exact ⟨j + 1, by omega, by go_num, (by rw [HE.out]; simp), HB2⟩
              case measure => simp [intOf]; omega
            · have HE := hid (show textOf (ss.take (j + 1)) = pre ++ [104] by rw [HE0.out]; unfold segT; simp [hg1, hg2, hg3])
              have hg4 : g.k = 4 := by omega
              obtain ⟨c0, c1, c2, c3, c4, c5⟩ := hsa
              clear HV hW HB1
              go_wp2_with fail
              go_roundw
              case rel => exact ⟨j + 1, by omega, by go_num, (by rw [HE.out, ← S_append]; rfl), hid (HB.out.alloc HB.out.size _)⟩
              case measure => simp [intOf]; omega
      · have hjz : decide (0 < j) = true := by simp [hj0]
        clear hpre0
        have HE0 := hid (show textOf (ss.take (j + 1)) = (pre ++ [32]) ++ segT g from HT1.out hj0)
        obtain ⟨W1, hW⟩ : ∃ W1, W1 = wr.alloc (.cells (cel g) 38) := ⟨_, rfl⟩
        have HV := hid (show Var W1 wr.heap.size (cel g) 38 by rw [hW]; exact Var.new _ _ _ _ rfl)
        have HB1 := hid (show Below w.heap.size w W1 by rw [hW]; exact HB.out.alloc HB.out.size _)
        have hsz : (S pre).size ≤ 112000 := by rw [S_size]; exact hpre
        obtain ⟨hx, hy, hu, hv, hw⟩ := hok.fit
        have Hx := hid (show -9223372036854775807 ≤ g.x ∧ g.x ≤ 9223372036854775807 by have := wi4.1 hok.r; omega)
        have Hy := hid (show -9223372036854775807 ≤ g.y ∧ g.y ≤ 9223372036854775807 by have := wi4.1 hok.r; omega)
        have Hu := hid (show -9223372036854775807 ≤ g.u ∧ g.u ≤ 9223372036854775807 by have := wi4.1 hok.r; omega)
        have Hv := hid (show -9223372036854775807 ≤ g.v ∧ g.v ≤ 9223372036854775807 by have := wi4.1 hok.r; omega)
        have Hw := hid (show g.k = 3 → -9223372036854775807 ≤ g.w ∧ g.w ≤ 9223372036854775807 from fun h => by have := hok.w h; omega)
        have lx := Lib.itoa_length_le g.x hx.1 hx.2
        have ly := Lib.itoa_length_le g.y hy.1 hy.2
        have lu := Lib.itoa_length_le g.u hu.1 hu.2
        have lv := Lib.itoa_length_le g.v hv.1 hv.2
        have lw := Lib.itoa_length_le g.w hw.1 hw.2
        have hk1 := hok.k.1
        have hk2 := hok.k.2
        clear hx hy hu hv hw hok HT0 HT1 hj0
        by_cases hg1 : g.k = 1
        · have HE := hid (show textOf (ss.take (j + 1)) = (pre ++ [32]) ++ ((([109, 32] ++ Lib.itoa g.x) ++ [32]) ++ Lib.itoa g.y) by rw [HE0.out]; unfold segT words; simp [hg1])
          have hb1 : (g.k == 1) = true := by simp [hg1]
          clear hg1
          go_upto_region 11 with fail
          rw [← hW]
          clear hW
          rename_i Kn hKn
          refine wp_region_fan 11 1000 (Over W1) (by kernel_rfl) (by kernel_rfl) (Over.start W1) ?_
          simp only [List.take_succ_cons, List.take_zero, List.drop_succ_cons, List.drop_zero]
          have LC := fun b w1 (h : Over W1 b w1) => Over.seg HV.out.segAt HV.out.lt h
          have LC1 := fun b w1 (h : Over W1 b w1) => (Over.seg HV.out.segAt HV.out.lt h).c1
          have LC2 := fun b w1 (h : Over W1 b w1) => (Over.seg HV.out.segAt HV.out.lt h).c2
          have LC3 := fun b w1 (h : Over W1 b w1) => (Over.seg HV.out.segAt HV.out.lt h).c3
          have LC4 := fun b w1 (h : Over W1 b w1) => (Over.seg HV.out.segAt HV.out.lt h).c4
          have LC5 := fun b w1 (h : Over W1 b w1) => (Over.seg HV.out.segAt HV.out.lt h).c5
          refine WalksE.sound _ _ _ _ ?_ (((((((((((Is.start _ (n := 79) rfl).pin 0 (v := .slice (some a) ss.length c) rfl).pin 1 (v := undef) rfl).pin 2 (v := .string ⟨#[]⟩) rfl).pin 3 (v := .string (S (pre ++ [32]))) (by exact congrArg Value.string (S_append pre [32]))).pin 4 (v := .int .i64 j) rfl).pin 5 (v := .pointer (some ⟨wr.heap.size, 0, none⟩)) rfl).pin 6 (v := .slice (some a) ss.length c) rfl).pin 7 (v := .int .i64 ss.length) rfl).pin 8 (v := .int .i64 j) rfl).pin 78 (v := undef) rfl)
          generalize (fun i => Array.getD _ i undef) = g0
          refine walks_with fun KQ hKQ => ?_
          (refine walks_one fun K hK => ?_); refine st_pure rfl rfl (fun _ => rfl) ?_; refine hK _ ?_; clear hK K
          (refine walks_one fun K hK => ?_); refine st_pure rfl rfl (fun _ => run_fld (by omega) rfl) ?_; refine hK _ ?_; clear hK K
          (refine walks_one fun K hK => ?_); refine st_loadFld LC1 rfl rfl rfl ?_; refine hK _ ?_; clear hK K
          (refine walks_one fun K hK => ?_); refine st_call rfl rfl (fun _ => run_call1 rfl enters_dec) (fun _ _ h => dec_over h rfl Hx.out) ?_; refine hK _ ?_; clear hK K
          (refine walks_one fun K hK => ?_); refine st_pure rfl rfl (fun _ => run_addS (a := [109, 32]) (b := Lib.itoa g.x) rfl rfl (by simp; omega)) ?_; refine hK _ ?_; clear hK K
          (refine walks_one fun K hK => ?_); refine st_pure rfl rfl (fun _ => run_addS (b := [32]) rfl rfl (by simp; omega)) ?_; refine hK _ ?_; clear hK K
          (refine walks_one fun K hK => ?_); refine st_pure rfl rfl (fun _ => run_fld (by omega) rfl) ?_; refine hK _ ?_; clear hK K
          (refine walks_one fun K hK => ?_); refine st_loadFld LC2 rfl rfl rfl ?_; refine hK _ ?_; clear hK K
          (refine walks_one fun K hK => ?_); refine st_call rfl rfl (fun _ => run_call1 rfl enters_dec) (fun _ _ h => dec_over h rfl Hy.out) ?_; refine hK _ ?_; clear hK K
          (refine walks_one fun K hK => ?_); refine st_pure rfl rfl (fun _ => run_addS (b := Lib.itoa g.y) rfl rfl (by simp; omega)) ?_; refine hK _ ?_; clear hK K
          (refine walks_one fun K hK => ?_); refine st_pure rfl rfl (fun _ => run_addS (a := (pre ++ [32])) rfl rfl (by simp; omega)) ?_; refine hK _ ?_; clear hK K
          refine walks_end fun a9 ha9 => hKQ _ fun w1 hC => ?_
          have e90 : a9.eval (Operand.tmp 35) = .string (S ((pre ++ [32]) ++ ((([109, 32] ++ Lib.itoa g.x) ++ [32]) ++ Lib.itoa g.y))) := by rw [ha9.eval]; rfl
          refine tailB ?_
          refine hKn _ _ ?_
          rw [e90]
          obtain ⟨g9, hg9, k0, k1, k2, k4, k5, k6, k7, k8, k78, k3⟩ : ∃ g9, Is (a9.put (some 3) (.string (S ((pre ++ [32]) ++ ((([109, 32] ++ Lib.itoa g.x) ++ [32]) ++ Lib.itoa g.y))))) 79 g9 ∧ g9 0 = .slice (some a) ss.length c ∧ g9 1 = undef ∧ g9 2 = .string ⟨#[]⟩ ∧ g9 4 = .int .i64 j ∧ g9 5 = .pointer (some ⟨wr.heap.size, 0, none⟩) ∧ g9 6 = .slice (some a) ss.length c ∧ g9 7 = .int .i64 ss.length ∧ g9 8 = .int .i64 j ∧ g9 78 = undef ∧ g9 3 = .string (S ((pre ++ [32]) ++ ((([109, 32] ++ Lib.itoa g.x) ++ [32]) ++ Lib.itoa g.y))) := ⟨_, ha9.put (d := 3) (by decide) _, rfl, rfl, rfl, rfl, rfl, rfl, rfl, rfl, rfl, rfl⟩
          have hw := hg9.whole
          rw [show ((List.range 79).map g9).toArray = #[g9 0, g9 1, g9 2, g9 3, g9 4, g9 5, g9 6, g9 7, g9 8, g9 9, g9 10, g9 11, g9 12, g9 13, g9 14, g9 15, g9 16, g9 17, g9 18, g9 19, g9 20, g9 21, g9 22, g9 23, g9 24, g9 25, g9 26, g9 27, g9 28, g9 29, g9 30, g9 31, g9 32, g9 33, g9 34, g9 35, g9 36, g9 37, g9 38, g9 39, g9 40, g9 41, g9 42, g9 43, g9 44, g9 45, g9 46, g9 47, g9 48, g9 49, g9 50, g9 51, g9 52, g9 53, g9 54, g9 55, g9 56, g9 57, g9 58, g9 59, g9 60, g9 61, g9 62, g9 63, g9 64, g9 65, g9 66, g9 67, g9 68, g9 69, g9 70, g9 71, g9 72, g9 73, g9 74, g9 75, g9 76, g9 77, g9 78] from rfl] at hw
          rw [k0, k1, k2, k4, k5, k6, k7, k8, k78, k3] at hw
          rw [show (a9.put (some 3) _) = _ from hw]
          have HR := hid hC
          clear hw hC hg9 k0 k1 k2 k4 k5 k6 k7 k8 k78 k3 ha9 e90 hKQ KQ hKn LC LC1 LC2 LC3 LC4 LC5
          have HB2 := hid (below_next HB1.out HR.out)
          clear HR HV HB1
          go_wp2_with fail
          go_roundw
          case rel => exact ⟨j + 1, by omega, by go_num, (by rw [HE.out]; simp), HB2⟩
          case measure => simp [intOf]; omega
        · by_cases hg2 : g.k = 2
          · have HE := hid (show textOf (ss.take (j + 1)) = (pre ++ [32]) ++ ((([108, 32] ++ Lib.itoa g.x) ++ [32]) ++ Lib.itoa g.y) by rw [HE0.out]; unfold segT words; simp [hg1, hg2])
            have hb1 : (g.k == 1) = false := by simp [hg1]
            have hb2 : (g.k == 2) = true := by simp [hg2]
            clear hg1 hg2
            go_upto_region 13 with fail
            rw [← hW]
            clear hW
            rename_i Kn hKn
            refine wp_region_fan 11 1000 (Over W1) (by kernel_rfl) (by kernel_rfl) (Over.start W1) ?_
            simp only [List.take_succ_cons, List.take_zero, List.drop_succ_cons, List.drop_zero]
            have LC := fun b w1 (h : Over W1 b w1) => Over.seg HV.out.segAt HV.out.lt h
            have LC1 := fun b w1 (h : Over W1 b w1) => (Over.seg HV.out.segAt HV.out.lt h).c1
            have LC2 := fun b w1 (h : Over W1 b w1) => (Over.seg HV.out.segAt HV.out.lt h).c2
            have LC3 := fun b w1 (h : Over W1 b w1) => (Over.seg HV.out.segAt HV.out.lt h).c3
            have LC4 := fun b w1 (h : Over W1 b w1) => (Over.seg HV.out.segAt HV.out.lt h).c4
            have LC5 := fun b w1 (h : Over W1 b w1) => (Over.seg HV.out.segAt HV.out.lt h).c5
            refine WalksE.sound _ _ _ _ ?_ (((((((((((Is.start _ (n := 79) rfl).pin 0 (v := .slice (some a) ss.length c) rfl).pin 1 (v := undef) rfl).pin 2 (v := .string ⟨#[]⟩) rfl).pin 3 (v := .string (S (pre ++ [32]))) (by exact congrArg Value.string (S_append pre [32]))).pin 4 (v := .int .i64 j) rfl).pin 5 (v := .pointer (some ⟨wr.heap.size, 0, none⟩)) rfl).pin 6 (v := .slice (some a) ss.length c) rfl).pin 7 (v := .int .i64 ss.length) rfl).pin 8 (v := .int .i64 j) rfl).pin 78 (v := undef) rfl)
            generalize (fun i => Array.getD _ i undef) = g0
            refine walks_with fun KQ hKQ => ?_
            (refine walks_one fun K hK => ?_); refine st_pure rfl rfl (fun _ => rfl) ?_; refine hK _ ?_; clear hK K
            (refine walks_one fun K hK => ?_); refine st_pure rfl rfl (fun _ => run_fld (by omega) rfl) ?_; refine hK _ ?_; clear hK K
            (refine walks_one fun K hK => ?_); refine st_loadFld LC1 rfl rfl rfl ?_; refine hK _ ?_; clear hK K
            (refine walks_one fun K hK => ?_); refine st_call rfl rfl (fun _ => run_call1 rfl enters_dec) (fun _ _ h => dec_over h rfl Hx.out) ?_; refine hK _ ?_; clear hK K
            (refine walks_one fun K hK => ?_); refine st_pure rfl rfl (fun _ => run_addS (a := [108, 32]) (b := Lib.itoa g.x) rfl rfl (by simp; omega)) ?_; refine hK _ ?_; clear hK K
            (refine walks_one fun K hK => ?_); refine st_pure rfl rfl (fun _ => run_addS (b := [32]) rfl rfl (by simp; omega)) ?_; refine hK _ ?_; clear hK K
            (refine walks_one fun K hK => ?_); refine st_pure rfl rfl (fun _ => run_fld (by omega) rfl) ?_; refine hK _ ?_; clear hK K
            (refine walks_one fun K hK => ?_); refine st_loadFld LC2 rfl rfl rfl ?_; refine hK _ ?_; clear hK K
            (refine walks_one fun K hK => ?_); refine st_call rfl rfl (fun _ => run_call1 rfl enters_dec) (fun _ _ h => dec_over h rfl Hy.out) ?_; refine hK _ ?_; clear hK K
            (refine walks_one fun K hK => ?_); refine st_pure rfl rfl (fun _ => run_addS (b := Lib.itoa g.y) rfl rfl (by simp; omega)) ?_; refine hK _ ?_; clear hK K
            (refine walks_one fun K hK => ?_); refine st_pure rfl rfl (fun _ => run_addS (a := (pre ++ [32])) rfl rfl (by simp; omega)) ?_; refine hK _ ?_; clear hK K
            refine walks_end fun a9 ha9 => hKQ _ fun w1 hC => ?_
            have e90 : a9.eval (Operand.tmp 48) = .string (S ((pre ++ [32]) ++ ((([108, 32] ++ Lib.itoa g.x) ++ [32]) ++ Lib.itoa g.y))) := by rw [ha9.eval]; rfl
            refine tailB ?_
            refine hKn _ _ ?_
            rw [e90]
            obtain ⟨g9, hg9, k0, k1, k2, k4, k5, k6, k7, k8, k78, k3⟩ : ∃ g9, Is (a9.put (some 3) (.string (S ((pre ++ [32]) ++ ((([108, 32] ++ Lib.itoa g.x) ++ [32]) ++ Lib.itoa g.y))))) 79 g9 ∧ g9 0 = .slice (some a) ss.length c ∧ g9 1 = undef ∧ g9 2 = .string ⟨#[]⟩ ∧ g9 4 = .int .i64 j ∧ g9 5 = .pointer (some ⟨wr.heap.size, 0, none⟩) ∧ g9 6 = .slice (some a) ss.length c ∧ g9 7 = .int .i64 ss.length ∧ g9 8 = .int .i64 j ∧ g9 78 = undef ∧ g9 3 = .string (S ((pre ++ [32]) ++ ((([108, 32] ++ Lib.itoa g.x) ++ [32]) ++ Lib.itoa g.y))) := ⟨_, ha9.put (d := 3) (by decide) _, rfl, rfl, rfl, rfl, rfl, rfl, rfl, rfl, rfl, rfl⟩
            have hw := hg9.whole
            rw [show ((List.range 79).map g9).toArray = #[g9 0, g9 1, g9 2, g9 3, g9 4, g9 5, g9 6, g9 7, g9 8, g9 9, g9 10, g9 11, g9 12, g9 13, g9 14, g9 15, g9 16, g9 17, g9 18, g9 19, g9 20, g9 21, g9 22, g9 23, g9 24, g9 25, g9 26, g9 27, g9 28, g9 29, g9 30, g9 31, g9 32, g9 33, g9 34, g9 35, g9 36, g9 37, g9 38, g9 39, g9 40, g9 41, g9 42, g9 43, g9 44, g9 45, g9 46, g9 47, g9 48, g9 49, g9 50, g9 51, g9 52, g9 53, g9 54, g9 55, g9 56, g9 57, g9 58, g9 59, g9 60, g9 61, g9 62, g9 63, g9 64, g9 65, g9 66, g9 67, g9 68, g9 69, g9 70, g9 71, g9 72, g9 73, g9 74, g9 75, g9 76, g9 77, g9 78] from rfl] at hw
            rw [k0, k1, k2, k4, k5, k6, k7, k8, k78, k3] at hw
            rw [show (a9.put (some 3) _) = _ from hw]
            have HR := hid hC
            clear hw hC hg9 k0 k1 k2 k4 k5 k6 k7 k8 k78 k3 ha9 e90 hKQ KQ hKn LC LC1 LC2 LC3 LC4 LC5
            have HB2 := hid (below_next HB1.out HR.out)
            clear HR HV HB1
            go_wp2_with fail
            go_roundw
            case rel => exact ⟨j + 1, by omega, by go_num, (by rw [HE.out]; simp), HB2⟩
            case measure => simp [intOf]; omega
          · by_cases hg3 : g.k = 3
            · have HE := hid (show textOf (ss.take (j + 1)) = (pre ++ [32]) ++ ((((((((([113, 32] ++ Lib.itoa g.u) ++ [32]) ++ Lib.itoa g.v) ++ [32]) ++ Lib.itoa g.x) ++ [32]) ++ Lib.itoa g.y) ++ [32]) ++ Lib.itoa g.w) by rw [HE0.out]; unfold segT words; simp [hg1, hg2, hg3])
              replace Hw := hid (Hw.out hg3)
              have hb1 : (g.k == 1) = false := by simp [hg1]
              have hb2 : (g.k == 2) = false := by simp [hg2]
              have hb3 : (g.k == 3) = true := by simp [hg3]
              clear hg1 hg2 hg3
              go_upto_region 15 with fail
              rw [← hW]
              clear hW
              rename_i Kn hKn
              refine wp_region_fan 26 1000 (Over W1) (by kernel_rfl) (by kernel_rfl) (Over.start W1) ?_
              simp only [List.take_succ_cons, List.take_zero, List.drop_succ_cons, List.drop_zero]
              have LC := fun b w1 (h : Over W1 b w1) => Over.seg HV.out.segAt HV.out.lt h
              have LC1 := fun b w1 (h : Over W1 b w1) => (Over.seg HV.out.segAt HV.out.lt h).c1
              have LC2 := fun b w1 (h : Over W1 b w1) => (Over.seg HV.out.segAt HV.out.lt h).c2
              have LC3 := fun b w1 (h : Over W1 b w1) => (Over.seg HV.out.segAt HV.out.lt h).c3
              have LC4 := fun b w1 (h : Over W1 b w1) => (Over.seg HV.out.segAt HV.out.lt h).c4
              have LC5 := fun b w1 (h : Over W1 b w1) => (Over.seg HV.out.segAt HV.out.lt h).c5
              refine WalksE.sound _ _ _ _ ?_ (((((((((((Is.start _ (n := 79) rfl).pin 0 (v := .slice (some a) ss.length c) rfl).pin 1 (v := undef) rfl).pin 2 (v := .string ⟨#[]⟩) rfl).pin 3 (v := .string (S (pre ++ [32]))) (by exact congrArg Value.string (S_append pre [32]))).pin 4 (v := .int .i64 j) rfl).pin 5 (v := .pointer (some ⟨wr.heap.size, 0, none⟩)) rfl).pin 6 (v := .slice (some a) ss.length c) rfl).pin 7 (v := .int .i64 ss.length) rfl).pin 8 (v := .int .i64 j) rfl).pin 78 (v := undef) rfl)
              generalize (fun i => Array.getD _ i undef) = g0
              refine walks_with fun KQ hKQ => ?_
              (refine walks_one fun K hK => ?_); refine st_pure rfl rfl (fun _ => rfl) ?_; refine hK _ ?_; clear hK K
              (refine walks_one fun K hK => ?_); refine st_pure rfl rfl (fun _ => run_fld (by omega) rfl) ?_; refine hK _ ?_; clear hK K
              (refine walks_one fun K hK => ?_); refine st_loadFld LC3 rfl rfl rfl ?_; refine hK _ ?_; clear hK K
              (refine walks_one fun K hK => ?_); refine st_call rfl rfl (fun _ => run_call1 rfl enters_dec) (fun _ _ h => dec_over h rfl Hu.out) ?_; refine hK _ ?_; clear hK K
              (refine walks_one fun K hK => ?_); refine st_pure rfl rfl (fun _ => run_addS (a := [113, 32]) (b := Lib.itoa g.u) rfl rfl (by simp; omega)) ?_; refine hK _ ?_; clear hK K
              (refine walks_one fun K hK => ?_); refine st_pure rfl rfl (fun _ => run_addS (b := [32]) rfl rfl (by simp; omega)) ?_; refine hK _ ?_; clear hK K
              (refine walks_one fun K hK => ?_); refine st_pure rfl rfl (fun _ => run_fld (by omega) rfl) ?_; refine hK _ ?_; clear hK K
              (refine walks_one fun K hK => ?_); refine st_loadFld LC4 rfl rfl rfl ?_; refine hK _ ?_; clear hK K
              (refine walks_one fun K hK => ?_); refine st_call rfl rfl (fun _ => run_call1 rfl enters_dec) (fun _ _ h => dec_over h rfl Hv.out) ?_; refine hK _ ?_; clear hK K
              (refine walks_one fun K hK => ?_); refine st_pure rfl rfl (fun _ => run_addS (b := Lib.itoa g.v) rfl rfl (by simp; omega)) ?_; refine hK _ ?_; clear hK K
              (refine walks_one fun K hK => ?_); refine st_pure rfl rfl (fun _ => run_addS (b := [32]) rfl rfl (by simp; omega)) ?_; refine hK _ ?_; clear hK K
              (refine walks_one fun K hK => ?_); refine st_pure rfl rfl (fun _ => run_fld (by omega) rfl) ?_; refine hK _ ?_; clear hK K
              (refine walks_one fun K hK => ?_); refine st_loadFld LC1 rfl rfl rfl ?_; refine hK _ ?_; clear hK K
              (refine walks_one fun K hK => ?_); refine st_call rfl rfl (fun _ => run_call1 rfl enters_dec) (fun _ _ h => dec_over h rfl Hx.out) ?_; refine hK _ ?_; clear hK K
              (refine walks_one fun K hK => ?_); refine st_pure rfl rfl (fun _ => run_addS (b := Lib.itoa g.x) rfl rfl (by simp; omega)) ?_; refine hK _ ?_; clear hK K
              (refine walks_one fun K hK => ?_); refine st_pure rfl rfl (fun _ => run_addS (b := [32]) rfl rfl (by simp; omega)) ?_; refine hK _ ?_; clear hK K
              (refine walks_one fun K hK => ?_); refine st_pure rfl rfl (fun _ => run_fld (by omega) rfl) ?_; refine hK _ ?_; clear hK K
              (refine walks_one fun K hK => ?_); refine st_loadFld LC2 rfl rfl rfl ?_; refine hK _ ?_; clear hK K
              (refine walks_one fun K hK => ?_); refine st_call rfl rfl (fun _ => run_call1 rfl enters_dec) (fun _ _ h => dec_over h rfl Hy.out) ?_; refine hK _ ?_; clear hK K
              (refine walks_one fun K hK => ?_); refine st_pure rfl rfl (fun _ => run_addS (b := Lib.itoa g.y) rfl rfl (by simp; omega)) ?_; refine hK _ ?_; clear hK K
              (refine walks_one fun K hK => ?_); refine st_pure rfl rfl (fun _ => run_addS (b := [32]) rfl rfl (by simp; omega)) ?_; refine hK _ ?_; clear hK K
              (refine walks_one fun K hK => ?_); refine st_pure rfl rfl (fun _ => run_fld (by omega) rfl) ?_; refine hK _ ?_; clear hK K
              (refine walks_one fun K hK => ?_); refine st_loadFld LC5 rfl rfl rfl ?_; refine hK _ ?_; clear hK K
              (refine walks_one fun K hK => ?_); refine st_call rfl rfl (fun _ => run_call1 rfl enters_dec) (fun _ _ h => dec_over h rfl Hw.out) ?_; refine hK _ ?_; clear hK K
              (refine walks_one fun K hK => ?_); refine st_pure rfl rfl (fun _ => run_addS (b := Lib.itoa g.w) rfl rfl (by simp; omega)) ?_; refine hK _ ?_; clear hK K
              (refine walks_one fun K hK => ?_); refine st_pure rfl rfl (fun _ => run_addS (a := (pre ++ [32])) rfl rfl (by simp; omega)) ?_; refine hK _ ?_; clear hK K
              refine walks_end fun a9 ha9 => hKQ _ fun w1 hC => ?_
              have e90 : a9.eval (Operand.tmp 76) = .string (S ((pre ++ [32]) ++ ((((((((([113, 32] ++ Lib.itoa g.u) ++ [32]) ++ Lib.itoa g.v) ++ [32]) ++ Lib.itoa g.x) ++ [32]) ++ Lib.itoa g.y) ++ [32]) ++ Lib.itoa g.w))) := by rw [ha9.eval]; rfl
              refine tailB ?_
              refine hKn _ _ ?_
              rw [e90]
              obtain ⟨g9, hg9, k0, k1, k2, k4, k5, k6, k7, k8, k78, k3⟩ : ∃ g9, Is (a9.put (some 3) (.string (S ((pre ++ [32]) ++ ((((((((([113, 32] ++ Lib.itoa g.u) ++ [32]) ++ Lib.itoa g.v) ++ [32]) ++ Lib.itoa g.x) ++ [32]) ++ Lib.itoa g.y) ++ [32]) ++ Lib.itoa g.w))))) 79 g9 ∧ g9 0 = .slice (some a) ss.length c ∧ g9 1 = undef ∧ g9 2 = .string ⟨#[]⟩ ∧ g9 4 = .int .i64 j ∧ g9 5 = .pointer (some ⟨wr.heap.size, 0, none⟩) ∧ g9 6 = .slice (some a) ss.length c ∧ g9 7 = .int .i64 ss.length ∧ g9 8 = .int .i64 j ∧ g9 78 = undef ∧ g9 3 = .string (S ((pre ++ [32]) ++ ((((((((([113, 32] ++ Lib.itoa g.u) ++ [32]) ++ Lib.itoa g.v) ++ [32]) ++ Lib.itoa g.x) ++ [32]) ++ Lib.itoa g.y) ++ [32]) ++ Lib.itoa g.w))) := ⟨_, ha9.put (d := 3) (by decide) _, rfl, rfl, rfl, rfl, rfl, rfl, rfl, rfl, rfl, rfl⟩
              have hw := hg9.whole
              rw [show ((List.range 79).map g9).toArray = #[g9 0, g9 1, g9 2, g9 3, g9 4, g9 5, g9 6, g9 7, g9 8, g9 9, g9 10, g9 11, g9 12, g9 13, g9 14, g9 15, g9 16, g9 17, g9 18, g9 19, g9 20, g9 21, g9 22, g9 23, g9 24, g9 25, g9 26, g9 27, g9 28, g9 29, g9 30, g9 31, g9 32, g9 33, g9 34, g9 35, g9 36, g9 37, g9 38, g9 39, g9 40, g9 41, g9 42, g9 43, g9 44, g9 45, g9 46, g9 47, g9 48, g9 49, g9 50, g9 51, g9 52, g9 53, g9 54, g9 55, g9 56, g9 57, g9 58, g9 59, g9 60, g9 61, g9 62, g9 63, g9 64, g9 65, g9 66, g9 67, g9 68, g9 69, g9 70, g9 71, g9 72, g9 73, g9 74, g9 75, g9 76, g9 77, g9 78] from rfl] at hw
              rw [k0, k1, k2, k4, k5, k6, k7, k8, k78, k3] at hw
              rw [show (a9.put (some 3) _) = _ from hw]
              have HR := hid hC
              clear hw hC hg9 k0 k1 k2 k4 k5 k6 k7 k8 k78 k3 ha9 e90 hKQ KQ hKn LC LC1 LC2 LC3 LC4 LC5
              have HB2 := hid (below_next HB1.out HR.out)
              clear HR HV HB1
              go_wp2_with fail
              go_roundw
              case rel => exact ⟨j + 1, by omega, by go_num, (by rw [HE.out]; simp), HB2⟩
              case measure => simp [intOf]; omega
            · have HE := hid (show textOf (ss.take (j + 1)) = (pre ++ [32]) ++ [104] by rw [HE0.out]; unfold segT; simp [hg1, hg2, hg3])
              have hg4 : g.k = 4 := by omega
              obtain ⟨c0, c1, c2, c3, c4, c5⟩ := hsa
              clear HV hW HB1
              go_wp2_with fail
              go_roundw
              case rel => exact ⟨j + 1, by omega, by go_num, (by rw [HE.out, ← S_append, ← S_append]; rfl), hid (HB.out.alloc HB.out.size _)⟩
              case measure => simp [intOf]; omega
    · have hjl : j = ss.length := by omega
      subst hjl
      rw [List.take_length]
      go_wp2_with fail
      go_ret
      exact ⟨rfl, HB.out⟩

end Go.Proofs.YtijkoaggcmgjiabDoor
