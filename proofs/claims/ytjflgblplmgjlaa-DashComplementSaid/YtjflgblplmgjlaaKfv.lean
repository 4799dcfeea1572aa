/- keep1's few: the walk (written by r9_kfw.py). -/
import Derived.Test.YtjflgblplmgjlaaMk
import Derived.Test.YtjflgblplmgjlaaWnd
namespace Go.Proofs.Ytjflgblplmgjlaa
open Go Go.RowKit
attribute [local go_sem] Oper.semAt_some
set_option linter.unusedVariables false
set_option linter.unusedSimpArgs false

section
variable {ρ : Operand → Value} {dst : Option Tmp} {ty : TypeId} {pos : String} {af : Array Edge} {x y : Operand} {w : World} {gd : Option (Nat × Bool)}
theorem run_loadPsv {g : Nat} {v : Value} (hx : ρ x = .pointer (some ⟨g, 0, none⟩)) (hV : w.cell? ⟨g, 0, none⟩ = some v) (hs : ∃ A n c, v = .slice A n c) :
    (execOp ρ { dst := dst, op := .load 25 x, type := ty, pos := pos, after := af, guard := gd }).run Try.prog w = .ok (.value v) w := by
  obtain ⟨A, n, c, rfl⟩ := hs
  go_simp
theorem run_fldL0 {a : Addr} (hx : ρ x = .pointer (some a)) :
    (execOp ρ { dst := dst, op := .fieldAddr 27 x 0, type := ty, pos := pos, after := af, guard := gd }).run Try.prog w = .ok (.value (.pointer (some a))) w := by
  go_simp
theorem run_fldP0b {g : Nat} (hx : ρ x = .pointer (some ⟨g, 0, none⟩)) :
    (execOp ρ { dst := dst, op := .fieldAddr 37 x 0, type := ty, pos := pos, after := af, guard := gd }).run Try.prog w = .ok (.value (.pointer (some ⟨g, 0, none⟩))) w := by
  go_simp
theorem run_fldP1b {g : Nat} (hx : ρ x = .pointer (some ⟨g, 0, none⟩)) :
    (execOp ρ { dst := dst, op := .fieldAddr 37 x 1, type := ty, pos := pos, after := af, guard := gd }).run Try.prog w = .ok (.value (.pointer (some ⟨g, 1, none⟩))) w := by
  go_simp
theorem run_bldPt {i j : Int} (hx : ρ x = .int .i64 i) (hy : ρ y = .int .i64 j) :
    (execOp ρ { dst := dst, op := .build 37 #[(0, x), (1, y)], type := ty, pos := pos, after := af, guard := gd }).run Try.prog w = .ok (.value (ptv ⟨i, j⟩)) w := by
  go_simp
theorem run_litPt {s : P2} (hx : ρ x = ptv s) :
    (execOp ρ { dst := dst, op := .buildSlice 25 1 #[(0, x)], type := ty, pos := pos, after := af, guard := gd }).run Try.prog w = .ok (.value (.slice (some ⟨w.heap.size, 0, none⟩) 1 1)) (w.alloc (.cells (pcel s) 37)) := by
  go_simp
theorem run_storePs {a : Addr} {A : Option Addr} {n c : Nat} {u : Value} (hx : ρ x = .pointer (some a)) (hy : ρ y = .slice A n c) (hc : w.cell? a = some u) (hf : w.frozen? a = false) :
    (execOp ρ { dst := dst, op := .store 25 x y, type := ty, pos := pos, after := af, guard := gd }).run Try.prog w = .ok .skip (w.setCell a (.slice A n c)) := by
  go_simp
end
theorem OwnP.cap {w : World} {B : Nat} {v : Value} {xs : List P2} (h : OwnP w B v xs) : ∃ A c, v = .slice A xs.length c ∧ xs.length ≤ c ∧ c ≤ maxLen := by
  rcases h.2 with ⟨h1, h2⟩ | ⟨g, cap, cur, h1, h3, h4, h5, h6, h7, h8⟩
  · exact ⟨none, 0, by rw [h1, h2], by omega, Nat.zero_le _⟩
  · exact ⟨_, cap, h1, h5, h6⟩
theorem wpList_append_Ln {ops : Array Oper} {rest : List Oper} {o : Oper} {a : Act} {Q : Exit → Act → World → Prop} {w w0 : World} {B b n c : Nat} {A : Option Addr} {ps : List P2} {cl : Bool} {v : Value} {es : List LE} (hgd : o.guard = none) (y x : Operand)
    (ho : o.op = .call { callee := .builtin .append, args := #[y, x], argTypes := #[22, 22] }) (hB : B ≤ w.heap.size) (hs : a.eval y = v) (hx : a.eval x = .slice (some ⟨w.heap.size, 0, none⟩) 1 1)
    (h : KF B w0 w v es b (.slice A n c) ps cl) (hn : n = ps.length) (hc : ps.length ≤ c ∧ c ≤ maxLen) (hl : es.length ≤ 5000000000)
    (k : ∀ v' w', KO B w0 w' v' (es ++ [⟨A, c, ps, cl⟩]) → wpList Try.prog ops Q rest (a.put o.dst v') w') : wpList Try.prog ops Q (o :: rest) a (w.alloc (.cells #[.slice A n c, .bool cl] 27)) := by
  subst hn
  obtain ⟨v', w', h1, h2⟩ := KF.done (ty := o.type) h hB hc hl
  refine wpList_plain hgd fun K hK' => ?_
  simp [Oper.wp, execOp, ho, resolve, invoke, builtin, hs, hx, h1, Result.andThen]
  exact hK' _ _ (k v' w' h2)
def cutL (m : Int) (l : Ln) : Ln := ⟨(l.ps.take 8).map (cutP m), l.cl⟩

set_option maxRecDepth 100000 in
set_option maxHeartbeats 8000000 in
theorem kfew_any (A : Option Addr) (es : List LE) (n c : Nat) (most : Int) (w : World) (hn : n = es.length) (hl : n ≤ maxLen) (hE : LnsE w A es) (hm : 0 ≤ most ∧ most ≤ 1000000000) :
    Calls Try.prog 9 #[.slice A n c, .int .i64 most] w fun e w' => (∃ A' c' es', e = .returned (.slice A' es'.length c') ∧ LnsE w' A' es' ∧ es'.map LE.ln = ((es.map LE.ln).take 4).map (cutL most)) ∧ Below w.heap.size w w' := by
  have HE := hid hE
  have HN := hid hn
  have HMO := hid hm
  unfold maxLen at hl
  clear hE hn hm
  go_enter Try.func9, Try.ntmps9
  go_wp2_with fail
  go_loopw [5, 6] (fun s5 s6 wr => ∃ (i : Nat) (v : Value) (es' : List LE), v = s5 ∧ s6 = .int .i64 i ∧ i ≤ n ∧ i ≤ 4 ∧ Hid (KO w.heap.size w wr v es') ∧ Hid (es'.map LE.ln = ((es.map LE.ln).take i).map (cutL most))) (fun _ s6 _ => 4 - (intOf s6).toNat)
  case atStart => exact ⟨0, _, [], rfl, rfl, Nat.zero_le _, Nat.zero_le _, hid ⟨Below.refl _ _, World.ownsRow_nil w _ _ 2, fun e h => (by cases h)⟩, hid rfl⟩
  case round =>
    obtain ⟨wo, rfl⟩ : ∃ wo, wo = wr := ⟨_, rfl⟩
    obtain ⟨i, v, es', rfl, rfl, hi1, hi2, HO, HL⟩ := hrel
    by_cases hlt : i < n
    · by_cases h4 : i < 4
      · have hil : i < es.length := by rw [← HN.out]; exact hlt
        have HBZ := hid (show w.heap.size ≤ wo.heap.size from HO.out.be.size)
        obtain ⟨a, rfl, hal, hsa⟩ := (HE.out.next HO.out.be).at_ hil
        obtain ⟨a0, ea0, hal0, hsa0⟩ := HE.out.at_ hil
        cases ea0
        have HLE0 := hid hsa0
        have HAL0 := hid hal0
        have HTK := hid (show ((es.map LE.ln).take (i + 1)).map (cutL most) = ((es.map LE.ln).take i).map (cutL most) ++ [cutL most es[i].ln] by rw [List.take_succ_eq_append_getElem (by rw [List.length_map]; exact hil), List.map_append]; simp)
        generalize es[i] = e at hsa hsa0 HLE0 HTK
        obtain ⟨c0, c1, -, -⟩ := hsa
        obtain ⟨cl, hcl⟩ : ∃ cl, cl = e.cl := ⟨_, rfl⟩
        have HCL := hid hcl
        rw [← hcl] at c1
        have HK := hid (HO.out.line HBZ.out cl)
        clear hsa0 hcl hal hal0
        obtain ⟨b, hb⟩ : ∃ b, b = wo.heap.size := ⟨_, rfl⟩
        have HBB := hid hb
        go_upto_region 6 with fail
        obtain ⟨wl, hwl⟩ : ∃ wl, wl = wo.alloc (.cells #[.slice none 0 0, .bool cl] 27) := ⟨_, rfl⟩
        rw [← hwl, ← hb] at HK
        rw [← hwl, ← hb]
        clear hwl c0 c1 hb
        have h4i := h4
        go_wp2_with fail
        have hi4 : (i : Int) < 4 := by omega
        rw [decide_eq_true hi4]
        clear hi4
        go_loopw [8] (fun s8 wr => ∃ (k : Nat) (vp : Value), s8 = .int .i64 k ∧ k ≤ e.ps.length ∧ k ≤ 8 ∧ Hid (KF w.heap.size w wr v es' b vp ((e.ps.take k).map (cutP most)) cl)) (fun s8 _ => 8 - (intOf s8).toNat)
        case atStart => exact ⟨0, _, rfl, Nat.zero_le _, Nat.zero_le _, HK⟩
        case round =>
          clear HK
          obtain ⟨wx, rfl⟩ : ∃ wx, wx = wr := ⟨_, rfl⟩
          obtain ⟨k, vp, rfl, hk1, hk2, HK⟩ := hrel
          have HBX := hid (show w.heap.size ≤ wx.heap.size from HK.out.o.be.size)
          have hlx := HLE0.out.below (W' := wx) ⟨HK.out.o.be.os, HK.out.o.be.tape, HK.out.o.be.output, HK.out.o.be.size, HK.out.o.be.block⟩ (by rw [add_block]; exact HAL0.out)
          obtain ⟨c0, -, hpts, hle⟩ := hlx
          have hlc := hle.2
          have hlc1 := hle.1
          unfold maxLen at hlc
          by_cases hkl : k < e.ps.length
          · by_cases hk8 : k < 8
            · obtain ⟨bp, hbp, hbl, hsb⟩ := hpts.at_ hkl
              rw [hbp] at c0
              have HTP := hid (show (e.ps.take (k + 1)).map (cutP most) = (e.ps.take k).map (cutP most) ++ [cutP most e.ps[k]] by rw [List.take_succ_eq_append_getElem hkl, List.map_append]; rfl)
              have hkli : (k : Int) < (e.ps.length : Int) := by omega
              have HKE := hid (show k + 1 ≤ e.ps.length from hkl)
              generalize e.ps[k] = p at hsb HTP
              obtain ⟨p0, p1⟩ := hsb
              have HVP := hid (show ∃ A n c, vp = .slice A n c from by obtain ⟨A2, c2, e2, -⟩ := HK.out.po.is; exact ⟨_, _, _, e2⟩)
              have HPV := hid (Var.new wx (pcel p) 37 _ rfl)
              have HK5 := hid (HK.out.next HBX.out ((Below.refl _ wx).alloc (Nat.le_refl _) (.cells (pcel p) 37)))
              go_upto_region 10 with fail
              clear c0 p0 p1 hbl hbp hpts
              obtain ⟨X, hX⟩ : ∃ X, X = wx := ⟨_, rfl⟩
              rw [← hX] at HPV HK5 HBX
              rw [← hX]
              obtain ⟨X3, hX3⟩ : ∃ X3, X3 = X.alloc (.cells (pcel p) 37) := ⟨_, rfl⟩
              have HBX3 := hid (show w.heap.size ≤ X3.heap.size by rw [hX3]; exact Nat.le_trans HBX.out ((Below.refl _ X).alloc (Nat.le_refl _) (.cells (pcel p) 37)).size)
              rw [← hX3] at HPV HK5
              rw [← hX3]
              clear hX hX3 HK
              have HLN := hid (show ((e.ps.take k).map (cutP most)).length ≤ 5000000000 by rw [List.length_map, List.length_take]; omega)
              have HFX : Rg (-most) := by unfold Rg; have := HMO.out; omega
              rename_i Kn hKn
              refine Iv.wp_region_inv (n := 71) (TJ [some 48, some 49, some 50, some 51, some 52, some 53, some 54, some 55, some 56, some 57, some 58, some 59, some 60, some 61, some 62, none, none, some 65, none]
                  [.pointer (some ⟨b, 0, none⟩), vp, .pointer (some ⟨X.heap.size, 0, none⟩), .int .i64 p.x, .int .i64 most, .int .i64 (-most), .int .i64 most, .int .i64 (cutV most p.x), .pointer (some ⟨X.heap.size, 1, none⟩), .int .i64 p.y, .int .i64 most, .int .i64 (-most), .int .i64 most, .int .i64 (cutV most p.y), ptv (cutP most p), undef, undef, .pointer (some ⟨b, 0, none⟩), undef]
                  [(0, .slice (some a) n c), (1, .int .i64 most), (2, undef), (3, undef), (4, .slice none 0 0), (5, v), (6, .int .i64 (i : Int)), (7, .pointer (some ⟨b, 0, none⟩)), (8, .int .i64 (k : Int)), (9, .pointer (some ⟨X.heap.size, 0, none⟩)), (10, .int .i64 (i : Int)), (11, .slice (some a) n c), (12, .int .i64 (n : Int)), (13, .bool true), (14, .bool true), (15, .int .i64 (i : Int)), (16, .bool true), (17, .bool true), (18, u18), (19, u19), (20, .slice (some a) n c), (21, .int .i64 (i : Int)), (22, .pointer (some (a.add (i * 2)))), (23, .pointer (some ⟨(a.add (i * 2)).block, (a.add (i * 2)).off + 1, none⟩)), (24, .bool cl), (25, .agg #[.slice none 0 0, .bool cl]), (66, u66), (67, u67), (68, u68), (69, u69), (70, undef)] (MK X3 w.heap.size vp ((e.ps.take k).map (cutP most)) (cutP most p) ⟨b, 0, none⟩ 15 16 18 63 64 [(1, 0), (3, 2), (5, 4), (7, 3), (7, 5), (7, 6), (9, 8), (11, 10), (13, 9), (13, 11), (13, 12), (13, 7), (14, 7), (14, 13), (15, 14), (16, 1), (16, 15), (16, 13), (18, 17), (18, 16)])) _ (by kernel_rfl) (by kernel_rfl) (Is.start _ rfl) ?_ ?_ ?_
              · refine ⟨fun i d _ h => (by cases h), fun q hq => ?_, MK.start⟩
                simp only [List.mem_cons, List.not_mem_nil, or_false] at hq
                rcases hq with rfl | rfl | rfl | rfl | rfl | rfl | rfl | rfl | rfl | rfl | rfl | rfl | rfl | rfl | rfl | rfl | rfl | rfl | rfl | rfl | rfl | rfl | rfl | rfl | rfl | rfl | rfl | rfl | rfl | rfl | rfl
                all_goals rfl
              · exact ⟨mk_val rfl rfl rfl rfl rfl rfl fun L f wx hL hdep H => run_fldL0 (H.x (7, .pointer (some ⟨b, 0, none⟩)) (by simp)),
                mk_val rfl rfl rfl rfl rfl rfl fun L f wx hL hdep H => run_loadPsv (H.t 0 48 rfl (hdep ⟨0, .data⟩ (by simp) rfl)) ((HK5.out.x.next (H.m.old hL rfl)).cell 0) HVP.out,
                mk_val rfl rfl rfl rfl rfl rfl fun L f wx hL hdep H => run_fldP0b (H.x (9, .pointer (some ⟨X.heap.size, 0, none⟩)) (by simp)),
                mk_val rfl rfl rfl rfl rfl rfl fun L f wx hL hdep H => run_loadInt (H.t 2 50 rfl (hdep ⟨2, .data⟩ (by simp) rfl)) ((HPV.out.next (H.m.old hL rfl)).cell 0),
                mk_val rfl rfl rfl rfl rfl rfl fun L f wx hL hdep H => congrArg (fun v => Result.ok (Next.value v) wx) (H.x (1, .int .i64 most) (by simp)),
                mk_val rfl rfl rfl rfl rfl rfl fun L f wx hL hdep H => run_neg (H.t 4 52 rfl (hdep ⟨4, .data⟩ (by simp) rfl)) HFX,
                mk_val rfl rfl rfl rfl rfl rfl fun L f wx hL hdep H => congrArg (fun v => Result.ok (Next.value v) wx) (H.x (1, .int .i64 most) (by simp)),
                mk_fn rfl rfl rfl rfl rfl rfl fun L f wx hL hdep H => ⟨_, (run_call3 rfl enters_kcut).trans (by rw [show env f (.tmp 51) = .int .i64 p.x from (H.t 3 51 rfl (hdep ⟨3, .data⟩ (by simp) rfl)), show env f (.tmp 53) = .int .i64 (-most) from (H.t 5 53 rfl (hdep ⟨5, .data⟩ (by simp) rfl)), show env f (.tmp 54) = .int .i64 most from (H.t 6 54 rfl (hdep ⟨6, .data⟩ (by simp) rfl))]), kcut_any p.x most wx HMO.out⟩,
                mk_val rfl rfl rfl rfl rfl rfl fun L f wx hL hdep H => run_fldP1b (H.x (9, .pointer (some ⟨X.heap.size, 0, none⟩)) (by simp)),
                mk_val rfl rfl rfl rfl rfl rfl fun L f wx hL hdep H => run_loadInt (H.t 8 56 rfl (hdep ⟨8, .data⟩ (by simp) rfl)) ((HPV.out.next (H.m.old hL rfl)).cell 1),
                mk_val rfl rfl rfl rfl rfl rfl fun L f wx hL hdep H => congrArg (fun v => Result.ok (Next.value v) wx) (H.x (1, .int .i64 most) (by simp)),
                mk_val rfl rfl rfl rfl rfl rfl fun L f wx hL hdep H => run_neg (H.t 10 58 rfl (hdep ⟨10, .data⟩ (by simp) rfl)) HFX,
                mk_val rfl rfl rfl rfl rfl rfl fun L f wx hL hdep H => congrArg (fun v => Result.ok (Next.value v) wx) (H.x (1, .int .i64 most) (by simp)),
                mk_fn rfl rfl rfl rfl rfl rfl fun L f wx hL hdep H => ⟨_, (run_call3 rfl enters_kcut).trans (by rw [show env f (.tmp 57) = .int .i64 p.y from (H.t 9 57 rfl (hdep ⟨9, .data⟩ (by simp) rfl)), show env f (.tmp 59) = .int .i64 (-most) from (H.t 11 59 rfl (hdep ⟨11, .data⟩ (by simp) rfl)), show env f (.tmp 60) = .int .i64 most from (H.t 12 60 rfl (hdep ⟨12, .data⟩ (by simp) rfl))]), kcut_any p.y most wx HMO.out⟩,
                mk_val rfl rfl rfl rfl rfl rfl fun L f wx hL hdep H => run_bldPt (H.t 7 55 rfl (hdep ⟨7, .data⟩ (by simp) rfl)) (H.t 13 61 rfl (hdep ⟨13, .data⟩ (by simp) rfl)),
                mk_lit rfl rfl rfl rfl rfl rfl rfl rfl (by simp) (by simp) rfl fun L f wx hL hdep H => run_litPt (H.t 14 62 rfl (hdep ⟨14, .data⟩ (by simp) rfl)),
                mk_app rfl rfl rfl rfl rfl rfl rfl HLN.out HBX3.out (by simp) ⟨⟨15, .data⟩, by simp, rfl, rfl⟩ rfl rfl HK5.out.po rfl fun L f wx hdep H => (H.t 1 49 rfl (hdep ⟨1, .data⟩ (by simp) rfl)),
                mk_val rfl rfl rfl rfl rfl rfl fun L f wx hL hdep H => run_fldL0 (H.x (7, .pointer (some ⟨b, 0, none⟩)) (by simp)),
                mk_store rfl rfl rfl ⟨⟨16, .data⟩, by simp, rfl, rfl⟩ rfl rfl rfl (fun L f wx hdep H => (H.t 17 65 rfl (hdep ⟨17, .data⟩ (by simp) rfl))) fun ρ w1 w v hb1 ho hg hx hy => by
                  have hxc := (HK5.out.next HBX3.out hb1).x.keep (hg.keeps (HK5.out.next HBX3.out hb1).BP.symm (fun q hq => by have := (yb_own _ _).1 hq; subst this; exact (HK5.out.next HBX3.out hb1).x.lt) b rfl)
                  obtain ⟨x0, x1, xf⟩ := hxc.read2
                  obtain ⟨A2, c2, e2, -⟩ := ho.is
                  rw [e2] at hy ⊢
                  exact run_storePs hx hy x0 (xf 0), trivial⟩
              intro L f act w4 hall H ha
              refine hKn _ _ ?_
              have k0 : f 0 = .slice (some a) n c := H.x (0, .slice (some a) n c) (by simp)
              have k1 : f 1 = .int .i64 most := H.x (1, .int .i64 most) (by simp)
              have k2 : f 2 = undef := H.x (2, undef) (by simp)
              have k3 : f 3 = undef := H.x (3, undef) (by simp)
              have k4 : f 4 = .slice none 0 0 := H.x (4, .slice none 0 0) (by simp)
              have k5 : f 5 = v := H.x (5, v) (by simp)
              have k6 : f 6 = .int .i64 (i : Int) := H.x (6, .int .i64 (i : Int)) (by simp)
              have k7 : f 7 = .pointer (some ⟨b, 0, none⟩) := H.x (7, .pointer (some ⟨b, 0, none⟩)) (by simp)
              have k8 : f 8 = .int .i64 (k : Int) := H.x (8, .int .i64 (k : Int)) (by simp)
              have k9 : f 9 = .pointer (some ⟨X.heap.size, 0, none⟩) := H.x (9, .pointer (some ⟨X.heap.size, 0, none⟩)) (by simp)
              have k10 : f 10 = .int .i64 (i : Int) := H.x (10, .int .i64 (i : Int)) (by simp)
              have k11 : f 11 = .slice (some a) n c := H.x (11, .slice (some a) n c) (by simp)
              have k12 : f 12 = .int .i64 (n : Int) := H.x (12, .int .i64 (n : Int)) (by simp)
              have k13 : f 13 = .bool true := H.x (13, .bool true) (by simp)
              have k14 : f 14 = .bool true := H.x (14, .bool true) (by simp)
              have k15 : f 15 = .int .i64 (i : Int) := H.x (15, .int .i64 (i : Int)) (by simp)
              have k16 : f 16 = .bool true := H.x (16, .bool true) (by simp)
              have k17 : f 17 = .bool true := H.x (17, .bool true) (by simp)
              have k18 : f 18 = u18 := H.x (18, u18) (by simp)
              have k19 : f 19 = u19 := H.x (19, u19) (by simp)
              have k20 : f 20 = .slice (some a) n c := H.x (20, .slice (some a) n c) (by simp)
              have k21 : f 21 = .int .i64 (i : Int) := H.x (21, .int .i64 (i : Int)) (by simp)
              have k22 : f 22 = .pointer (some (a.add (i * 2))) := H.x (22, .pointer (some (a.add (i * 2)))) (by simp)
              have k23 : f 23 = .pointer (some ⟨(a.add (i * 2)).block, (a.add (i * 2)).off + 1, none⟩) := H.x (23, .pointer (some ⟨(a.add (i * 2)).block, (a.add (i * 2)).off + 1, none⟩)) (by simp)
              have k24 : f 24 = .bool cl := H.x (24, .bool cl) (by simp)
              have k25 : f 25 = .agg #[.slice none 0 0, .bool cl] := H.x (25, .agg #[.slice none 0 0, .bool cl]) (by simp)
              have k66 : f 66 = u66 := H.x (66, u66) (by simp)
              have k67 : f 67 = u67 := H.x (67, u67) (by simp)
              have k68 : f 68 = u68 := H.x (68, u68) (by simp)
              have k69 : f 69 = u69 := H.x (69, u69) (by simp)
              have k70 : f 70 = undef := H.x (70, undef) (by simp)
              obtain ⟨w1, wa, hb1, hown, hgr, rfl⟩ := H.m.s (hall 18 (by decide))
              have hw := ha.whole
              rw [show ((List.range 71).map f).toArray = #[f 0, f 1, f 2, f 3, f 4, f 5, f 6, f 7, f 8, f 9, f 10, f 11, f 12, f 13, f 14, f 15, f 16, f 17, f 18, f 19, f 20, f 21, f 22, f 23, f 24, f 25, f 26, f 27, f 28, f 29, f 30, f 31, f 32, f 33, f 34, f 35, f 36, f 37, f 38, f 39, f 40, f 41, f 42, f 43, f 44, f 45, f 46, f 47, f 48, f 49, f 50, f 51, f 52, f 53, f 54, f 55, f 56, f 57, f 58, f 59, f 60, f 61, f 62, f 63, f 64, f 65, f 66, f 67, f 68, f 69, f 70] from rfl] at hw
              rw [k0, k1, k2, k3, k4, k5, k6, k7, k8, k9, k10, k11, k12, k13, k14, k15, k16, k17, k18, k19, k20, k21, k22, k23, k24, k25, k66, k67, k68, k69, k70] at hw
              subst hw
              clear ha H hall hKn k0 k1 k2 k3 k4 k5 k6 k7 k8 k9 k10 k11 k12 k13 k14 k15 k16 k17 k18 k19 k20 k21 k22 k23 k24 k25 k66 k67 k68 k69 k70 Kn
              clear L
              have HK6 := HK5.out.next HBX3.out hb1
              have HK7 := hid (HK6.point (Nat.le_trans HBX3.out hb1.size) hown hgr)
              generalize f 64 = v6 at HK7 hown hgr ⊢
              generalize wa.setCell ⟨b, 0, none⟩ v6 = w7 at HK7 ⊢
              clear hown hgr hb1 HK6 HK5 HPV HVP
              go_wp2_with fail
              go_roundw
              case rel => exact ⟨k + 1, v6, by go_num, HKE.out, by omega, hid (by rw [HTP.out]; exact HK7.out)⟩
              case measure => simp [intOf]; omega
            · have hk8e : k = 8 := by omega
              have hkli : (k : Int) < (e.ps.length : Int) := by omega
              have HTE := hid (show e.ps.take k = e.ps.take 8 from by rw [hk8e])
              obtain ⟨ps2, hps⟩ : ∃ ps2, ps2 = (e.ps.take k).map (cutP most) := ⟨_, rfl⟩
              have HPS := hid hps
              rw [← hps] at HK
              clear hps
              obtain ⟨A2, c2, hv2, hc2⟩ := HK.out.po.cap
              have HC2 := hid hc2
              subst hv2
              obtain ⟨n2, hn2⟩ : ∃ n2, n2 = ps2.length := ⟨_, rfl⟩
              rw [← hn2] at HK
              have HN2 := hid hn2
              clear hn2 hc2
              have HLN2 := hid (show es'.length ≤ 5000000000 by
                have h1 := congrArg List.length HL.out
                simp only [List.length_map, List.length_take] at h1
                omega)
              obtain ⟨x0, x1, xf⟩ := HK.out.x.read2
              clear hpts
              go_wp2_with (at_builtin; refine wpList_append_Ln (B := w.heap.size) (w0 := w) (A := A2) (c := c2) (n := n2) (ps := ps2) (cl := cl) rfl _ _ rfl HBX.out rfl rfl HK.out HN2.out HC2.out HLN2.out ?_)
              intro v5 w5 hko
              have HKO5 := hid hko
              clear hko
              go_wp2_with fail
              go_roundw
              case rel => exact ⟨i + 1, v5, es' ++ [⟨A2, c2, ps2, cl⟩], rfl, by go_num, by omega, by omega, HKO5, hid (by rw [List.map_append, HL.out, HTK.out]; unfold cutL LE.ln; rw [HPS.out, HTE.out, HCL.out]; rfl)⟩
              case measure => simp [intOf]; omega
          · have hkle : k = e.ps.length := by omega
            have hkli : ¬ (k : Int) < (e.ps.length : Int) := by omega
            have HTE := hid (show e.ps.take k = e.ps.take 8 from by rw [List.take_of_length_le (by omega), List.take_of_length_le (by omega)])
            obtain ⟨ps2, hps⟩ : ∃ ps2, ps2 = (e.ps.take k).map (cutP most) := ⟨_, rfl⟩
            have HPS := hid hps
            rw [← hps] at HK
            clear hps
            obtain ⟨A2, c2, hv2, hc2⟩ := HK.out.po.cap
            have HC2 := hid hc2
            subst hv2
            obtain ⟨n2, hn2⟩ : ∃ n2, n2 = ps2.length := ⟨_, rfl⟩
            rw [← hn2] at HK
            have HN2 := hid hn2
            clear hn2 hc2
            have HLN2 := hid (show es'.length ≤ 5000000000 by
              have h1 := congrArg List.length HL.out
              simp only [List.length_map, List.length_take] at h1
              omega)
            obtain ⟨x0, x1, xf⟩ := HK.out.x.read2
            clear hpts
            go_wp2_with (at_builtin; refine wpList_append_Ln (B := w.heap.size) (w0 := w) (A := A2) (c := c2) (n := n2) (ps := ps2) (cl := cl) rfl _ _ rfl HBX.out rfl rfl HK.out HN2.out HC2.out HLN2.out ?_)
            intro v5 w5 hko
            have HKO5 := hid hko
            clear hko
            go_wp2_with fail
            go_roundw
            case rel => exact ⟨i + 1, v5, es' ++ [⟨A2, c2, ps2, cl⟩], rfl, by go_num, by omega, by omega, HKO5, hid (by rw [List.map_append, HL.out, HTK.out]; unfold cutL LE.ln; rw [HPS.out, HTE.out, HCL.out]; rfl)⟩
            case measure => simp [intOf]; omega
      · have hi4 : i = 4 := by omega
        subst hi4
        obtain ⟨A', c', rfl, hL⟩ := HO.out.lns
        have HLL := hid hL
        have HBE := hid HO.out.be
        have hi : (4 : Int) < (n : Int) := by omega
        clear hL
        go_wp2_with fail
        go_ret
        exact ⟨⟨A', c', es', rfl, HLL.out, by have := HL.out; simpa using this⟩, HBE.out⟩
    · have HE2 := hid (show (es.map LE.ln).take i = (es.map LE.ln).take 4 by
        have := HN.out
        rw [List.take_of_length_le (by rw [List.length_map]; omega), List.take_of_length_le (by rw [List.length_map]; omega)])
      rw [HE2.out] at HL
      have hlti : ¬ (i : Int) < (n : Int) := by omega
      obtain ⟨A', c', rfl, hL⟩ := HO.out.lns
      have HLL := hid hL
      have HBE := hid HO.out.be
      clear hL
      go_wp2_with fail
      go_ret
      exact ⟨⟨A', c', es', rfl, HLL.out, by have := HL.out; simpa using this⟩, HBE.out⟩
end Go.Proofs.Ytjflgblplmgjlaa
