/- What Flatten of package conic returns. -/
import Derived.Test.YtcdedefhofkbhaaLnW
namespace Go.Proofs.Ytcdedefhofkbhaa
open Go Go.RowKit
set_option linter.unusedVariables false
set_option linter.unusedSimpArgs false

section
variable {ρ : Operand → Value} {dst : Option Tmp} {ty : TypeId} {pos : String} {af : Array Edge} {x y : Operand} {w : World} {gd : Option (Nat × Bool)}
theorem run_nil {a : Addr} (hx : ρ x = .pointer (some a)) :
    (execOp ρ { dst := dst, op := .nilCheck x, type := ty, pos := pos, after := af, guard := gd }).run Try.prog w = .ok (.value (.pointer (some a))) w := by
  go_simp
theorem run_fld_line0 {n j : Nat} (hx : ρ x = .pointer (some ⟨n, j, none⟩)) :
    (execOp ρ { dst := dst, op := .fieldAddr 44 x 0, type := ty, pos := pos, after := af, guard := gd }).run Try.prog w = .ok (.value (.pointer (some ⟨n, j, none⟩))) w := by
  go_simp
theorem run_fld_line1 {n j : Nat} (hx : ρ x = .pointer (some ⟨n, j, none⟩)) :
    (execOp ρ { dst := dst, op := .fieldAddr 44 x 1, type := ty, pos := pos, after := af, guard := gd }).run Try.prog w = .ok (.value (.pointer (some ⟨n, j + 1, none⟩))) w := by
  go_simp
theorem run_loadSl {a : Addr} {A : Option Addr} {n c : Nat} (hx : ρ x = .pointer (some a)) (hc : w.cell? a = some (.slice A n c)) :
    (execOp ρ { dst := dst, op := .load 27 x, type := ty, pos := pos, after := af, guard := gd }).run Try.prog w = .ok (.value (.slice A n c)) w := by
  go_simp
theorem run_lenP {A : Option Addr} {n c : Nat} (hx : ρ x = .slice A n c) :
    (execOp ρ { dst := dst, op := .call { callee := .builtin .len, args := #[x], argTypes := #[27] }, type := ty, pos := pos, after := af, guard := gd }).run Try.prog w = .ok (.value (.int .i64 n)) w := by
  go_simp
theorem run_lenL {A : Option Addr} {n c : Nat} (hx : ρ x = .slice A n c) :
    (execOp ρ { dst := dst, op := .call { callee := .builtin .len, args := #[x], argTypes := #[36] }, type := ty, pos := pos, after := af, guard := gd }).run Try.prog w = .ok (.value (.int .i64 n)) w := by
  go_simp
theorem run_lenS {A : Option Addr} {n c : Nat} (hx : ρ x = .slice A n c) :
    (execOp ρ { dst := dst, op := .call { callee := .builtin .len, args := #[x], argTypes := #[35] }, type := ty, pos := pos, after := af, guard := gd }).run Try.prog w = .ok (.value (.int .i64 n)) w := by
  go_simp
theorem run_indexLn {a : Addr} {j : Int} {n c : Nat} (hx : ρ x = .slice (some a) n c) (hy : ρ y = .int .i64 j) (h0 : 0 ≤ j) (hj : j < (n : Int)) :
    (execOp ρ { dst := dst, op := .indexAddr 36 x y, type := ty, pos := pos, after := af, guard := gd }).run Try.prog w = .ok (.value (.pointer (some (a.add (j.toNat * 2))))) w := by
  go_simp
theorem run_ptRow {g j : Nat} {p : P2} (hx : ρ x = .pointer (some ⟨g, j, none⟩)) (h0 : w.cell? ⟨g, j, none⟩ = some (.int .i64 p.x)) (h1 : w.cell? ⟨g, j + 1, none⟩ = some (.int .i64 p.y)) :
    (execOp ρ { dst := dst, op := .load 23 x, type := ty, pos := pos, after := af, guard := gd }).run Try.prog w = .ok (.value (ptv p)) w := by
  go_simp
theorem run_storeSl {a : Addr} {A : Option Addr} {n c : Nat} {u : Value} (hx : ρ x = .pointer (some a)) (hy : ρ y = .slice A n c) (hc : w.cell? a = some u) (hf : w.frozen? a = false) :
    (execOp ρ { dst := dst, op := .store 27 x y, type := ty, pos := pos, after := af, guard := gd }).run Try.prog w = .ok .skip (w.setCell a (.slice A n c)) := by
  go_simp
theorem run_storeB {a : Addr} {b : Bool} {u : Value} (hx : ρ x = .pointer (some a)) (hy : ρ y = .bool b) (hc : w.cell? a = some u) (hf : w.frozen? a = false) :
    (execOp ρ { dst := dst, op := .store 4 x y, type := ty, pos := pos, after := af, guard := gd }).run Try.prog w = .ok .skip (w.setCell a (.bool b)) := by
  go_simp
theorem run_buildLn {A : Option Addr} {n c : Nat} (hx : ρ x = .slice A n c) :
    (execOp ρ { dst := dst, op := .build 44 #[(0, x)], type := ty, pos := pos, after := af, guard := gd }).run Try.prog w = .ok (.value (.agg #[.slice A n c, .bool false])) w := by
  go_simp
theorem run_litLn {A : Option Addr} {n c : Nat} {b : Bool} (hx : ρ x = .agg #[.slice A n c, .bool b]) :
    (execOp ρ { dst := dst, op := .buildSlice 36 1 #[(0, x)], type := ty, pos := pos, after := af, guard := gd }).run Try.prog w = .ok (.value (.slice (some ⟨w.heap.size, 0, none⟩) 1 1)) (w.alloc (.cells #[.slice A n c, .bool b] 44)) := by
  go_simp
theorem run_allocSeg : (execOp ρ { dst := dst, op := .alloc 25, type := ty, pos := pos, after := af, guard := gd }).run Try.prog w = .ok (.value (.pointer (some ⟨w.heap.size, 0, none⟩))) (w.alloc (.cells #[.int .i64 0, .int .i64 0, .int .i64 0, .int .i64 0, .int .i64 0, .int .i64 0] 25)) := by
  go_simp
theorem run_storeSeg {B : Nat} {s : Sg} {u0 u1 u2 u3 u4 u5 : Value} (hp : ρ x = .pointer (some ⟨B, 0, none⟩)) (hq : ρ y = seg s) (hV : Var w B #[u0, u1, u2, u3, u4, u5] 25) :
    (execOp ρ { dst := dst, op := .store 25 x y, type := ty, pos := pos, after := af, guard := gd }).run Try.prog w = .ok .skip ((((((w.setCell ⟨B, 0, none⟩ (.int .i64 s.k)).setCell ⟨B, 1, none⟩ (.int .i64 s.x)).setCell ⟨B, 2, none⟩ (.int .i64 s.y)).setCell ⟨B, 3, none⟩ (.int .i64 s.u)).setCell ⟨B, 4, none⟩ (.int .i64 s.v)).setCell ⟨B, 5, none⟩ (.int .i64 s.w)) := by
  obtain ⟨q0, q1, q2, q3, q4, q5, qf⟩ := hV.read6
  go_simp
end
theorem enters_repl : Enters Try.prog 29 := enters_of Try.func29 (by kernel_rfl) rfl
/-- The cell that is stored to is there behind the append. -/
theorem app_cell {W w : World} {B gl m : Nat} {vo v : Value} {xs ys : List P2} {cur : Array Value} (h : AppRes W B vo xs ys w v) (hV : Var W gl cur 44) (hm : m < cur.size) (hne : vo.ownBlock ≠ some gl) : (∃ u, w.cell? ⟨gl, m, none⟩ = some u) ∧ w.frozen? ⟨gl, m, none⟩ = false := by
  have hV2 : Var w gl cur 44 := hV.keep (h.g.block gl hV.lt (fun k => hne k.symm))
  exact ⟨⟨_, (hV2.cell m).trans (Array.getElem?_eq_getElem hm)⟩, hV2.free m⟩
/-- A call that returns a row of lines and an error. -/
def GivesLn (E : Int) (ls : List Ln) (w : World) (e : Ending) (w' : World) : Prop := ∃ v es, e = .returned (.tuple #[v, .int .i64 E]) ∧ OwnL w' w.heap.size v es ∧ es.map (·.2) = ls ∧ Below w.heap.size w w'

theorem flatten_bad (A : Option Addr) (ss : List Sg) (n c : Nat) (w : World) (hn : n = ss.length) (hs : n ≤ 1000 → Segs w A ss) (h : chk ss ≠ 0) :
    Calls Try.prog 13 #[.slice A n c] w (GivesLn (chk ss) [] w) := by
  have hc := check_any A ss n c w hn hs
  generalize chk ss = E at h hc
  have hne : (E != 0) = true := by simp [h]
  clear h
  have HC := hid hc
  clear hc hs hn
  go_enter Try.func13, Try.ntmps13
  go_wp2_with fail
  (with_reducible refine HC.out.mono ?_); rintro e w1 ⟨rfl, hb⟩
  have HB := hid hb
  clear hb
  go_wp2_with fail
  go_ret2
  exact ⟨_, [], rfl, OwnL.nil _ _, rfl, HB.out⟩

set_option maxHeartbeats 6400000 in
set_option maxRecDepth 100000 in
theorem flatten_good (A : Option Addr) (ss : List Sg) (n c : Nat) (w : World) (hn : n = ss.length) (hs : Segs w A ss) (h : chk ss = 0) :
    Calls Try.prog 13 #[.slice A n c] w (GivesLn 0 (flatL ss) w) := by
  have HCK := hid (check_any A ss n c w hn (fun _ => hs))
  rw [h] at HCK
  have HN := hid hn
  have HS := hid hs
  have HCH := hid h
  have HFO := fun k (h1 : k ≤ ss.length) (h2 : 0 < k) => hid (flat_ok h k h1 h2)
  have HTK := fun k (h1 : k < ss.length) => hid (flatL_take h1)
  have HOK := fun k (h1 : k < ss.length) => hid (chk_okay h ss[k] (List.getElem_mem h1))
  have hn1000 : n ≤ 1000 := by rw [hn]; exact chk_le h
  obtain ⟨B, hB⟩ : ∃ B, B = w.heap.size := ⟨_, rfl⟩
  have HBE := hid hB
  clear hn hs h
  go_enter Try.func13, Try.ntmps13
  go_wp2_with fail
  (with_reducible refine HCK.out.mono ?_); rintro e w1 ⟨rfl, hb⟩
  rw [← hB] at hb
  have HB := hid hb
  clear hb HCK hB
  go_upto_region 5 with fail
  rename_i Kn hKn
  refine wp_region_lit ?_
  refine sq_start (n := 67) rfl fun a0 hs0 => ?_
  have ha0 := ((hs0.pin 0 (v := .slice A n c) rfl).pin 5 (v := .slice none 0 0) rfl)
  clear hs0
  generalize (fun i => Array.getD _ i undef) = g0 at ha0
  refine sq_val (v := .slice A n c) ha0 rfl rfl fun a1 ha1 => ?_
  refine sq_val (v := .int .i64 (n : Int)) ha1 rfl (run_lenS rfl) fun a2 ha2 => ?_
  refine sq_val (v := .int .i64 0) ha2 rfl rfl fun a3 ha3 => ?_
  refine wpList_nil ?_
  refine hKn _ _ ?_
  obtain ⟨gD, hg9, k0, k5, k15, k16, k17⟩ : ∃ g9, Is a3 67 g9 ∧ g9 0 = .slice A n c ∧ g9 5 = .slice none 0 0 ∧ g9 15 = .slice A n c ∧ g9 16 = .int .i64 ((n : Int)) ∧ g9 17 = .int .i64 (0) := ⟨_, ha3, rfl, rfl, rfl, rfl, rfl⟩
  have hw := hg9.whole
  rw [show ((List.range 67).map gD).toArray = #[gD 0, gD 1, gD 2, gD 3, gD 4, gD 5, gD 6, gD 7, gD 8, gD 9, gD 10, gD 11, gD 12, gD 13, gD 14, gD 15, gD 16, gD 17, gD 18, gD 19, gD 20, gD 21, gD 22, gD 23, gD 24, gD 25, gD 26, gD 27, gD 28, gD 29, gD 30, gD 31, gD 32, gD 33, gD 34, gD 35, gD 36, gD 37, gD 38, gD 39, gD 40, gD 41, gD 42, gD 43, gD 44, gD 45, gD 46, gD 47, gD 48, gD 49, gD 50, gD 51, gD 52, gD 53, gD 54, gD 55, gD 56, gD 57, gD 58, gD 59, gD 60, gD 61, gD 62, gD 63, gD 64, gD 65, gD 66] from rfl] at hw
  rw [k0, k5, k15, k16, k17] at hw
  subst hw
  clear hg9 k0 k5 k15 k16 k17
  clear ha0 ha1 ha2 ha3 hKn Kn
  go_wp2_with fail
  go_loopw [5, 17] (fun s5 s17 wr => ∃ (k : Nat) (es : List LE), k ≤ n ∧ s17 = .int .i64 k ∧ Hid (OwnL wr B s5 es) ∧ Hid (es.map (·.2) = flatL (ss.take k)) ∧ Hid (es.length ≤ k) ∧ Hid (Below B w wr) ∧ Hid (B ≤ wr.heap.size)) (fun _ s17 _ => n - (intOf s17).toNat)
  case atStart => exact ⟨0, [], Nat.zero_le _, rfl, hid (OwnL.nil _ _), hid rfl, hid (Nat.le_refl _), HB, hid (by rw [HBE.out]; exact HB.out.size)⟩
  case round =>
    obtain ⟨k, es, hk, rfl, HO, HE, HLE, HBK, HBS⟩ := hrel
    clear HB
    by_cases hlt : k < n
    · have hkl : k < ss.length := by rw [← HN.out]; exact hlt
      obtain ⟨a, rfl, hal, hsa⟩ := HS.out.at_ hkl
      have hsa' := hsa.below HBK.out (by rw [add_block, HBE.out]; exact hal)
      have HA := hid hsa'
      have HO1 := HOK k hkl
      have HT := HTK k hkl
      have HF0 := hid (fun h1 => (HFO k (Nat.le_of_lt hkl) h1).out)
      have HK1 := hid (show ss[k].k ≠ 1 → 0 < k from fun h1 => by
        rcases Nat.eq_zero_or_pos k with e | e
        · subst e; exact absurd (chk_first HCH.out hkl) h1
        · exact e)
      clear hsa hsa' hal
      generalize ss[k] = s at HA HO1 HT HK1
      go_upto_region 7 with fail
      rename_i Kn hKn
      refine wp_region_lit ?_
      refine sq_start (n := 67) rfl fun a0 hs0 => ?_
      have ha0 := ((((((((((((((((hs0.pin 0 (v := .slice (some a) n c) rfl).pin 1 (v := gD 1) rfl).pin 2 (v := gD 2) rfl).pin 3 (v := gD 3) rfl).pin 4 (v := gD 4) rfl).pin 6 (v := gD 6) rfl).pin 10 (v := gD 10) rfl).pin 11 (v := gD 11) rfl).pin 12 (v := gD 12) rfl).pin 13 (v := gD 13) rfl).pin 14 (v := gD 14) rfl).pin 15 (v := .slice (some a) n c) rfl).pin 16 (v := .int .i64 ((n : Int))) rfl).pin 66 (v := gD 66) rfl).pin 5 (v := u5) rfl).pin 17 (v := .int .i64 ((k : Int))) rfl)
      clear hs0
      generalize (fun i => Array.getD _ i undef) = g0 at ha0
      refine sq_val ha0 rfl (run_index (a := a) (j := k) rfl rfl (by omega) (by omega)) fun a1 ha1 => ?_
      refine sq_val ha1 rfl (run_loadSeg (s := s) rfl (by rw [Int.toNat_natCast]; exact HA.out)) fun a2 ha2 => ?_
      refine sq_val ha2 rfl run_allocSeg fun a3 ha3 => ?_
      refine sq_skip ha3 (run_storeSeg (s := s) rfl rfl (Var.new wr _ _ _ rfl)) fun a4 ha4 => ?_
      refine wpList_nil ?_
      refine hKn _ _ ?_
      obtain ⟨g9, hg9, k0, k1, k2, k3, k4, k5, k6, k7, k10, k11, k12, k13, k14, k15, k16, k17, k66⟩ : ∃ g9, Is a4 67 g9 ∧ g9 0 = .slice (some a) n c ∧ g9 1 = gD 1 ∧ g9 2 = gD 2 ∧ g9 3 = gD 3 ∧ g9 4 = gD 4 ∧ g9 5 = u5 ∧ g9 6 = gD 6 ∧ g9 7 = .pointer (some ⟨wr.heap.size, 0, none⟩) ∧ g9 10 = gD 10 ∧ g9 11 = gD 11 ∧ g9 12 = gD 12 ∧ g9 13 = gD 13 ∧ g9 14 = gD 14 ∧ g9 15 = .slice (some a) n c ∧ g9 16 = .int .i64 ((n : Int)) ∧ g9 17 = .int .i64 ((k : Int)) ∧ g9 66 = gD 66 := ⟨_, ha4, rfl, rfl, rfl, rfl, rfl, rfl, rfl, rfl, rfl, rfl, rfl, rfl, rfl, rfl, rfl, rfl, rfl⟩
      have hw := hg9.whole
      rw [show ((List.range 67).map g9).toArray = #[g9 0, g9 1, g9 2, g9 3, g9 4, g9 5, g9 6, g9 7, g9 8, g9 9, g9 10, g9 11, g9 12, g9 13, g9 14, g9 15, g9 16, g9 17, g9 18, g9 19, g9 20, g9 21, g9 22, g9 23, g9 24, g9 25, g9 26, g9 27, g9 28, g9 29, g9 30, g9 31, g9 32, g9 33, g9 34, g9 35, g9 36, g9 37, g9 38, g9 39, g9 40, g9 41, g9 42, g9 43, g9 44, g9 45, g9 46, g9 47, g9 48, g9 49, g9 50, g9 51, g9 52, g9 53, g9 54, g9 55, g9 56, g9 57, g9 58, g9 59, g9 60, g9 61, g9 62, g9 63, g9 64, g9 65, g9 66] from rfl] at hw
      rw [k0, k1, k2, k3, k4, k5, k6, k7, k10, k11, k12, k13, k14, k15, k16, k17, k66] at hw
      subst hw
      clear hg9 k0 k1 k2 k3 k4 k5 k6 k7 k10 k11 k12 k13 k14 k15 k16 k17 k66
      obtain ⟨w2, hw2⟩ : ∃ w2, w2 = ((((((wr.alloc (.cells #[.int .i64 0, .int .i64 0, .int .i64 0, .int .i64 0, .int .i64 0, .int .i64 0] 25)).setCell ⟨wr.heap.size, 0, none⟩ (.int .i64 s.k)).setCell ⟨wr.heap.size, 1, none⟩ (.int .i64 s.x)).setCell ⟨wr.heap.size, 2, none⟩ (.int .i64 s.y)).setCell ⟨wr.heap.size, 3, none⟩ (.int .i64 s.u)).setCell ⟨wr.heap.size, 4, none⟩ (.int .i64 s.v)).setCell ⟨wr.heap.size, 5, none⟩ (.int .i64 s.w) := ⟨_, rfl⟩
      have HV7 := hid (show Var w2 wr.heap.size (cel s) 25 by rw [hw2]; exact (Var.new wr _ _ _ rfl).set6)
      have hb2 : Below wr.heap.size wr w2 := by rw [hw2]; exact below_set6 (below_alloc (Below.refl _ wr) _) (Nat.le_refl _)
      have HO2 := hid (HO.out.next hb2)
      have HB2 := hid (show Below B w w2 from HBK.out.trans (hb2.mono HBS.out))
      have HS2 := hid (show B ≤ w2.heap.size from Nat.le_trans HBS.out hb2.size)
      rw [← hw2]
      clear hw2 hb2 ha0 ha1 ha2 ha3 ha4 hKn Kn HO HBK HBS HA
      generalize wr.heap.size = b7 at HV7 ⊢
      clear wr
      obtain ⟨p0, p1, p2, p3, p4, p5, pf⟩ := HV7.out.read6
      by_cases h1 : s.k = 1
      · have h1b : (s.k == 1) = true := by simp [h1]
        have HM := hid (show flatL (ss.take (k + 1)) = flatL (ss.take k) ++ [⟨[⟨s.x, s.y⟩], false⟩] from HT.out.trans (addL_move _ h1))
        clear h1 HT HF0 HK1
        go_upto_region 9 with fail
        clear p0 p1 p2 p3 p4 p5 pf
        rename_i Kn hKn
        refine wp_region_lit ?_
        refine sq_start (n := 67) rfl fun a0 hs0 => ?_
        have ha0 := (((((((((((((((((hs0.pin 0 (v := .slice (some a) n c) rfl).pin 1 (v := gD 1) rfl).pin 2 (v := gD 2) rfl).pin 3 (v := gD 3) rfl).pin 4 (v := gD 4) rfl).pin 6 (v := gD 6) rfl).pin 10 (v := gD 10) rfl).pin 11 (v := gD 11) rfl).pin 12 (v := gD 12) rfl).pin 13 (v := gD 13) rfl).pin 14 (v := gD 14) rfl).pin 15 (v := .slice (some a) n c) rfl).pin 16 (v := .int .i64 ((n : Int))) rfl).pin 66 (v := gD 66) rfl).pin 5 (v := u5) rfl).pin 7 (v := .pointer (some ⟨b7, 0, none⟩)) rfl).pin 17 (v := .int .i64 ((k : Int))) rfl)
        clear hs0
        generalize (fun i => Array.getD _ i undef) = g0 at ha0
        refine sq_val ha0 rfl rfl fun a1 ha1 => ?_
        refine sq_val ha1 rfl (run_loadSegV rfl HV7.out) fun a2 ha2 => ?_
        refine sq_call (v := undef) (G := fun v w3 => v = pt s.x s.y ∧ Below w2.heap.size w2 w3) ha2 rfl (run_call1 rfl enters_end) ((end_any s w2).mono fun e w3 h => ⟨_, h.1, rfl, h.2⟩) fun v w3 a3 hv ha3 => ?_
        obtain ⟨hv, hb⟩ := hv
        subst hv
        refine sq_val ha3 rfl (run_litPt (a := s.x) (b := s.y) rfl) fun a4 ha4 => ?_
        refine sq_val ha4 rfl (run_buildLn rfl) fun a5 ha5 => ?_
        refine sq_val ha5 rfl (run_litLn rfl) fun a6 ha6 => ?_
        have hs3 : B ≤ w3.heap.size := Nat.le_trans HS2.out hb.size
        have ho3 := HO2.out.next hb
        have hb3 := below_alloc (Below.refl _ w3) (.cells #[.int .i64 s.x, .int .i64 s.y] 23)
        obtain ⟨v4, w4, h41, h42, h43, -⟩ := append_line (ty := 36) (l := ⟨[⟨s.x, s.y⟩], false⟩) (Nat.le_trans hs3 hb3.size) (ho3.next hb3) (own_of_var (ps := [⟨s.x, s.y⟩]) (Var.new w3 _ _ _ rfl) hs3 rfl (by show 1 ≤ maxLen; unfold maxLen; decide)) (by show 0 < 1; omega) (fun e he => by
          obtain ⟨g1, c1, hv1, -, hg1⟩ := own_lt (ho3.p e he).1 (ho3.p e he).2
          rw [hv1]
          intro hh
          have : g1 = w3.heap.size := by simpa [Value.ownBlock] using hh
          omega) (by have := HLE.out; omega)
        refine sq_val (v := v4) ha6 rfl (F2.run_append rfl rfl h41) fun a7 ha7 => ?_
        refine sq_val (v := v4) ha7 rfl rfl fun a8 ha8 => ?_
        refine wpList_nil ?_
        refine hKn _ _ ?_
        obtain ⟨g9, hg9, k0, k1, k2, k3, k4, k5, k6, k10, k11, k12, k13, k14, k15, k16, k17, k66⟩ : ∃ g9, Is a8 67 g9 ∧ g9 0 = .slice (some a) n c ∧ g9 1 = gD 1 ∧ g9 2 = gD 2 ∧ g9 3 = gD 3 ∧ g9 4 = gD 4 ∧ g9 5 = v4 ∧ g9 6 = gD 6 ∧ g9 10 = gD 10 ∧ g9 11 = gD 11 ∧ g9 12 = gD 12 ∧ g9 13 = gD 13 ∧ g9 14 = gD 14 ∧ g9 15 = .slice (some a) n c ∧ g9 16 = .int .i64 ((n : Int)) ∧ g9 17 = .int .i64 ((k : Int)) ∧ g9 66 = gD 66 := ⟨_, ha8, rfl, rfl, rfl, rfl, rfl, rfl, rfl, rfl, rfl, rfl, rfl, rfl, rfl, rfl, rfl, rfl⟩
        have hw := hg9.whole
        rw [show ((List.range 67).map g9).toArray = #[g9 0, g9 1, g9 2, g9 3, g9 4, g9 5, g9 6, g9 7, g9 8, g9 9, g9 10, g9 11, g9 12, g9 13, g9 14, g9 15, g9 16, g9 17, g9 18, g9 19, g9 20, g9 21, g9 22, g9 23, g9 24, g9 25, g9 26, g9 27, g9 28, g9 29, g9 30, g9 31, g9 32, g9 33, g9 34, g9 35, g9 36, g9 37, g9 38, g9 39, g9 40, g9 41, g9 42, g9 43, g9 44, g9 45, g9 46, g9 47, g9 48, g9 49, g9 50, g9 51, g9 52, g9 53, g9 54, g9 55, g9 56, g9 57, g9 58, g9 59, g9 60, g9 61, g9 62, g9 63, g9 64, g9 65, g9 66] from rfl] at hw
        rw [k0, k1, k2, k3, k4, k5, k6, k10, k11, k12, k13, k14, k15, k16, k17, k66] at hw
        subst hw
        clear hg9 k0 k1 k2 k3 k4 k5 k6 k10 k11 k12 k13 k14 k15 k16 k17 k66
        have HO4 := hid h42
        have HE4 := hid (show (es ++ [(Value.slice (some ⟨w3.heap.size, 0, none⟩) 1 1, (⟨[⟨s.x, s.y⟩], false⟩ : Ln))]).map (·.2) = flatL (ss.take (k + 1)) by rw [List.map_append, HE.out, HM.out]; rfl)
        have HL4 := hid (show (es ++ [(Value.slice (some ⟨w3.heap.size, 0, none⟩) 1 1, (⟨[⟨s.x, s.y⟩], false⟩ : Ln))]).length ≤ k + 1 by have := HLE.out; simp; omega)
        have HB4 := hid (((HB2.out.trans (hb.mono HS2.out)).trans (hb3.mono hs3)).trans h43)
        have HS4 := hid (show B ≤ w4.heap.size from Nat.le_trans (Nat.le_trans hs3 hb3.size) h43.size)
        clear ha0 ha1 ha2 ha3 ha4 ha5 ha6 ha7 ha8 hKn Kn hb hs3 ho3 hb3 h41 h42 h43 HO2 HB2 HS2 HV7 HE HLE HM
        go_wp2_with fail
        go_roundw
        case rel => exact ⟨k + 1, es ++ [(.slice (some ⟨w3.heap.size, 0, none⟩) 1 1, ⟨[⟨s.x, s.y⟩], false⟩)], by omega, by go_num, HO4, HE4, HL4, HB4, HS4⟩
        case measure => simp [intOf]; omega
      · have h1b : (s.k == 1) = false := by simp [h1]
        obtain ⟨ls, l, hfl, hlo⟩ := HF0.out (HK1.out h1)
        have HM := hid (show flatL (ss.take (k + 1)) = ls ++ [updL l s] by rw [HT.out, hfl]; exact addL_last _ _ h1)
        have hee : ∃ es0 e, es = es0 ++ [e] ∧ es0.map (·.2) = ls ∧ e.2 = l := by
          have := HE.out
          rw [hfl] at this
          obtain ⟨a1, a2, e1, e2, e3⟩ := List.map_eq_append_iff.1 this
          obtain ⟨x, e4, e5⟩ : ∃ x, a2 = [x] ∧ x.2 = l := by
            cases a2 with
            | nil => simp at e3
            | cons x t =>
              cases t with
              | nil => exact ⟨x, rfl, by simpa using e3⟩
              | cons y t => simp at e3
          exact ⟨a1, x, by rw [e1, e4], e2, e5⟩
        obtain ⟨es, e, rfl, hls, rfl⟩ := hee
        have HLS := hid hls
        have HLO := hid hlo
        clear hls hlo hfl HT HF0 HK1 HE
        obtain ⟨gl, cl, rfl, hglB, hglt, cur, hcur, hcs, hc0, hc1⟩ := HO2.out.last
        generalize hm : es.length = m at hcs hc0 hc1 ⊢
        have HMM := hid hm
        have HCUR := hid hcur
        have HC0 := hid hc0
        have HC1 := hid hc1
        have HGL := hid (And.intro hglB hglt)
        have hmc0 := hcs
        clear hcur hc0 hc1 hglB hglt hcs
        have hle : m + 1 ≤ 1000 := by have := HLE.out; simp at this; omega
        clear hm
        go_upto_region 10 with fail
        clear p0 p1 p2 p3 p4 p5 pf
        rename_i Kn hKn
        refine wp_region_lit ?_
        refine sq_start (n := 67) rfl fun a0 hs0 => ?_
        have ha0 := (((((((((((((((((hs0.pin 0 (v := .slice (some a) n c) rfl).pin 1 (v := gD 1) rfl).pin 2 (v := gD 2) rfl).pin 3 (v := gD 3) rfl).pin 4 (v := gD 4) rfl).pin 6 (v := gD 6) rfl).pin 10 (v := gD 10) rfl).pin 11 (v := gD 11) rfl).pin 12 (v := gD 12) rfl).pin 13 (v := gD 13) rfl).pin 14 (v := gD 14) rfl).pin 15 (v := .slice (some a) n c) rfl).pin 16 (v := .int .i64 ((n : Int))) rfl).pin 66 (v := gD 66) rfl).pin 5 (v := .slice (some ⟨gl, 0, none⟩) (m + 1) cl) rfl).pin 7 (v := .pointer (some ⟨b7, 0, none⟩)) rfl).pin 17 (v := .int .i64 ((k : Int))) rfl)
        clear hs0
        generalize (fun i => Array.getD _ i undef) = g0 at ha0
        refine sq_val ha0 rfl rfl fun a1 ha1 => ?_
        refine sq_val ha1 rfl rfl fun a2 ha2 => ?_
        refine sq_val ha2 rfl (run_lenL (n := m + 1) rfl) fun a3 ha3 => ?_
        refine sq_val (v := .int .i64 (m : Int)) ha3 rfl ((run_sub rfl rfl (by unfold Rg; omega)).trans (by rw [show ((m + 1 : Nat) : Int) - 1 = m by omega])) fun a4 ha4 => ?_
        refine sq_val (v := .pointer (some ⟨gl, m * 2, none⟩)) ha4 rfl ((run_indexLn (a := ⟨gl, 0, none⟩) (j := (m : Int)) rfl rfl (by omega) (by omega)).trans (by rw [addr0, Int.toNat_natCast])) fun a5 ha5 => ?_
        refine sq_val ha5 rfl rfl fun a6 ha6 => ?_
        refine wpList_nil ?_
        refine hKn _ _ ?_
        obtain ⟨g9, hg9, k0, k1, k2, k3, k4, k5, k6, k7, k8, k10, k11, k12, k13, k14, k15, k16, k17, k66⟩ : ∃ g9, Is a6 67 g9 ∧ g9 0 = .slice (some a) n c ∧ g9 1 = gD 1 ∧ g9 2 = gD 2 ∧ g9 3 = gD 3 ∧ g9 4 = gD 4 ∧ g9 5 = .slice (some ⟨gl, 0, none⟩) (m + 1) cl ∧ g9 6 = gD 6 ∧ g9 7 = .pointer (some ⟨b7, 0, none⟩) ∧ g9 8 = .pointer (some ⟨gl, m * 2, none⟩) ∧ g9 10 = gD 10 ∧ g9 11 = gD 11 ∧ g9 12 = gD 12 ∧ g9 13 = gD 13 ∧ g9 14 = gD 14 ∧ g9 15 = .slice (some a) n c ∧ g9 16 = .int .i64 ((n : Int)) ∧ g9 17 = .int .i64 ((k : Int)) ∧ g9 66 = gD 66 := ⟨_, ha6, rfl, rfl, rfl, rfl, rfl, rfl, rfl, rfl, rfl, rfl, rfl, rfl, rfl, rfl, rfl, rfl, rfl, rfl⟩
        have hw := hg9.whole
        rw [show ((List.range 67).map g9).toArray = #[g9 0, g9 1, g9 2, g9 3, g9 4, g9 5, g9 6, g9 7, g9 8, g9 9, g9 10, g9 11, g9 12, g9 13, g9 14, g9 15, g9 16, g9 17, g9 18, g9 19, g9 20, g9 21, g9 22, g9 23, g9 24, g9 25, g9 26, g9 27, g9 28, g9 29, g9 30, g9 31, g9 32, g9 33, g9 34, g9 35, g9 36, g9 37, g9 38, g9 39, g9 40, g9 41, g9 42, g9 43, g9 44, g9 45, g9 46, g9 47, g9 48, g9 49, g9 50, g9 51, g9 52, g9 53, g9 54, g9 55, g9 56, g9 57, g9 58, g9 59, g9 60, g9 61, g9 62, g9 63, g9 64, g9 65, g9 66] from rfl] at hw
        rw [k0, k1, k2, k3, k4, k5, k6, k7, k8, k10, k11, k12, k13, k14, k15, k16, k17, k66] at hw
        subst hw
        clear hg9 k0 k1 k2 k3 k4 k5 k6 k7 k8 k10 k11 k12 k13 k14 k15 k16 k17 k66
        clear ha0 ha1 ha2 ha3 ha4 ha5 ha6 hKn Kn
        by_cases h4 : s.k = 4
        · have h4b : (s.k == 4) = true := by simp [h4]
          have HM4 := hid (show flatL (ss.take (k + 1)) = ls ++ [⟨e.2.ps, true⟩] by rw [HM.out]; unfold updL; rw [if_pos h4])
          clear h4 HM
          obtain ⟨p0, p1, p2, p3, p4, p5, pf⟩ := HV7.out.read6
          go_upto_region 12 with fail
          clear p0 p1 p2 p3 p4 p5 pf
          rename_i Kn hKn
          refine wp_region_lit ?_
          refine sq_start (n := 67) rfl fun a0 hs0 => ?_
          have ha0 := ((((((((((((((((((hs0.pin 0 (v := .slice (some a) n c) rfl).pin 1 (v := gD 1) rfl).pin 2 (v := gD 2) rfl).pin 3 (v := gD 3) rfl).pin 4 (v := gD 4) rfl).pin 6 (v := gD 6) rfl).pin 10 (v := gD 10) rfl).pin 11 (v := gD 11) rfl).pin 12 (v := gD 12) rfl).pin 13 (v := gD 13) rfl).pin 14 (v := gD 14) rfl).pin 15 (v := .slice (some a) n c) rfl).pin 16 (v := .int .i64 ((n : Int))) rfl).pin 66 (v := gD 66) rfl).pin 5 (v := .slice (some ⟨gl, 0, none⟩) (m + 1) cl) rfl).pin 7 (v := .pointer (some ⟨b7, 0, none⟩)) rfl).pin 8 (v := .pointer (some ⟨gl, m * 2, none⟩)) rfl).pin 17 (v := .int .i64 ((k : Int))) rfl)
          clear hs0
          generalize (fun i => Array.getD _ i undef) = g0 at ha0
          refine sq_val ha0 rfl rfl fun a1 ha1 => ?_
          refine sq_val ha1 rfl (run_nil rfl) fun a2 ha2 => ?_
          refine sq_val ha2 rfl (run_fld_line1 rfl) fun a3 ha3 => ?_
          refine sq_skip ha3 (run_storeB (b := true) rfl rfl ((HCUR.out.cell (m * 2 + 1)).trans HC1.out) (HCUR.out.free _)) fun a4 ha4 => ?_
          refine wpList_nil ?_
          refine hKn _ _ ?_
          obtain ⟨g9, hg9, k0, k1, k2, k3, k4, k5, k6, k10, k11, k12, k13, k14, k15, k16, k17, k66⟩ : ∃ g9, Is a4 67 g9 ∧ g9 0 = .slice (some a) n c ∧ g9 1 = gD 1 ∧ g9 2 = gD 2 ∧ g9 3 = gD 3 ∧ g9 4 = gD 4 ∧ g9 5 = .slice (some ⟨gl, 0, none⟩) (m + 1) cl ∧ g9 6 = gD 6 ∧ g9 10 = gD 10 ∧ g9 11 = gD 11 ∧ g9 12 = gD 12 ∧ g9 13 = gD 13 ∧ g9 14 = gD 14 ∧ g9 15 = .slice (some a) n c ∧ g9 16 = .int .i64 ((n : Int)) ∧ g9 17 = .int .i64 ((k : Int)) ∧ g9 66 = gD 66 := ⟨_, ha4, rfl, rfl, rfl, rfl, rfl, rfl, rfl, rfl, rfl, rfl, rfl, rfl, rfl, rfl, rfl, rfl⟩
          have hw := hg9.whole
          rw [show ((List.range 67).map g9).toArray = #[g9 0, g9 1, g9 2, g9 3, g9 4, g9 5, g9 6, g9 7, g9 8, g9 9, g9 10, g9 11, g9 12, g9 13, g9 14, g9 15, g9 16, g9 17, g9 18, g9 19, g9 20, g9 21, g9 22, g9 23, g9 24, g9 25, g9 26, g9 27, g9 28, g9 29, g9 30, g9 31, g9 32, g9 33, g9 34, g9 35, g9 36, g9 37, g9 38, g9 39, g9 40, g9 41, g9 42, g9 43, g9 44, g9 45, g9 46, g9 47, g9 48, g9 49, g9 50, g9 51, g9 52, g9 53, g9 54, g9 55, g9 56, g9 57, g9 58, g9 59, g9 60, g9 61, g9 62, g9 63, g9 64, g9 65, g9 66] from rfl] at hw
          rw [k0, k1, k2, k3, k4, k5, k6, k10, k11, k12, k13, k14, k15, k16, k17, k66] at hw
          subst hw
          clear hg9 k0 k1 k2 k3 k4 k5 k6 k10 k11 k12 k13 k14 k15 k16 k17 k66
          have HO4 := hid (show OwnL (w2.setCell ⟨gl, m * 2 + 1, none⟩ (.bool true)) B (.slice (some ⟨gl, 0, none⟩) (m + 1) cl) (es ++ [(e.1, ⟨e.2.ps, true⟩)]) by have := HMM.out; subst this; exact HO2.out.close)
          have HE4 := hid (show (es ++ [(e.1, (⟨e.2.ps, true⟩ : Ln))]).map (·.2) = flatL (ss.take (k + 1)) by rw [List.map_append, HLS.out, HM4.out]; rfl)
          have HL4 := hid (show (es ++ [(e.1, (⟨e.2.ps, true⟩ : Ln))]).length ≤ k + 1 by have := HLE.out; simp at this ⊢; omega)
          have HB4 := hid (HB2.out.setCell (p := ⟨gl, m * 2 + 1, none⟩) HGL.out.1 (.bool true))
          have HS4 := hid (show B ≤ (w2.setCell ⟨gl, m * 2 + 1, none⟩ (.bool true)).heap.size by simpa using HS2.out)
          clear ha0 ha1 ha2 ha3 ha4 hKn Kn
          generalize w2.setCell ⟨gl, m * 2 + 1, none⟩ (.bool true) = w6 at HO4 HB4 HS4 ⊢
          clear HO2 HB2 HS2 HV7 HCUR HC0 HC1 HGL HLE HLS HM4 HMM hmc0
          go_wp2_with fail
          go_roundw
          case rel => exact ⟨k + 1, es ++ [(e.1, ⟨e.2.ps, true⟩)], by omega, by go_num, HO4, HE4, HL4, HB4, HS4⟩
          case measure => simp [intOf]; omega
        · have h4b : (s.k == 4) = false := by simp [h4]
          have HM4 := hid (show flatL (ss.take (k + 1)) = ls ++ [⟨e.2.ps ++ replP (lastP e.2) s, e.2.cl⟩] by rw [HM.out]; unfold updL; rw [if_neg h4])
          have hinc := inc_of HLO.out.i HO1.out h1 h4
          clear h4 HM
          obtain ⟨p0, p1, p2, p3, p4, p5, pf⟩ := HV7.out.read6
          go_upto_region 13 with fail
          clear p0 p1 p2 p3 p4 p5 pf
          have hpe := HO2.out.p e (by simp)
          obtain ⟨gp, cp, hve, hgpB, hgpl, hrow⟩ := own_row hpe.1 hpe.2
          obtain ⟨q, hq⟩ : ∃ q, e.2.ps.length = q + 1 := ⟨e.2.ps.length - 1, by have := hpe.2; omega⟩
          have hql : q + 1 ≤ 512 * k := by rw [← hq]; exact HLO.out.n
          have hlastq : e.2.ps[q]? = some (lastP e.2) := by
            unfold lastP
            rw [List.getLastD_eq_getLast?, List.getLast?_eq_getElem?, hq, Nat.add_sub_cancel, List.getElem?_eq_getElem (by omega)]
            rfl
          generalize hp : lastP e.2 = p at hinc hlastq HM4
          rw [hq] at hve
          have HPE := hid hpe
          have HVE := hid hve
          have HROW := hid hrow
          have hmc : m * 2 < cur.size := by omega
          have hcell : cur[m * 2]? = some (.slice (some ⟨gp, 0, none⟩) (q + 1) cp) := by rw [HC0.out, hve]
          have LC := fun wx (hb : Below w2.heap.size w2 wx) => ((HCUR.out.next hb).cell (m * 2)).trans hcell
          have LR := fun wx (hb : Below w2.heap.size w2 wx) => (HROW.out.next hgpl hb) q p hlastq
          clear hpe hve hrow hp
          rename_i Kn hKn
          refine Iv.wp_region_inv (n := 67) (TJ [some 42, some 43, some 44, some 45, some 46, some 47, some 48, some 49, some 50, some 51, some 52, some 53, none, none]
              [.pointer (some ⟨gl, m * 2, none⟩), .pointer (some ⟨gl, m * 2, none⟩), .pointer (some ⟨gl, m * 2, none⟩), .slice (some ⟨gp, 0, none⟩) (q + 1) cp, .pointer (some ⟨gl, m * 2, none⟩), .pointer (some ⟨gl, m * 2, none⟩), .pointer (some ⟨gl, m * 2, none⟩), .slice (some ⟨gp, 0, none⟩) (q + 1) cp, .int .i64 ((q + 1 : Nat) : Int), .int .i64 (q : Int), .pointer (some ⟨gp, q * 2, none⟩), ptv p, undef, undef]
              [(0, .slice (some a) n c), (7, .pointer (some ⟨b7, 0, none⟩)), (8, .pointer (some ⟨gl, m * 2, none⟩)), (5, .slice (some ⟨gl, 0, none⟩) (m + 1) cl), (15, .slice (some a) n c), (16, .int .i64 (n : Int)), (17, .int .i64 (k : Int)), (1, gD 1), (2, gD 2), (3, gD 3), (4, gD 4), (6, gD 6), (10, gD 10), (11, gD 11), (12, gD 12), (13, gD 13), (14, gD 14), (66, gD 66)] (MB w2 [⟨12, 13, 9, pcel p, 23⟩])) _ (by kernel_rfl) (by kernel_rfl) (Is.start _ rfl) ?_ ?_ ?_
          · refine ⟨fun i d _ h => (by cases h), fun q hq => ?_, MB.start w2 _ _⟩
            simp only [List.mem_cons, List.not_mem_nil, or_false] at hq
            rcases hq with rfl | rfl | rfl | rfl | rfl | rfl | rfl | rfl | rfl | rfl | rfl | rfl | rfl | rfl | rfl | rfl | rfl | rfl
            all_goals rfl
          · exact ⟨nb_val rfl rfl rfl rfl rfl fun L f wx hL hdep H => congrArg (fun v => Result.ok (Next.value v) wx) (H.x (8, .pointer (some ⟨gl, m * 2, none⟩)) (by simp)),
    nb_val rfl rfl rfl rfl rfl fun L f wx hL hdep H => run_nil (H.t 0 42 rfl (hdep ⟨0, .data⟩ (by simp) rfl)),
    nb_val rfl rfl rfl rfl rfl fun L f wx hL hdep H => run_fld_line0 (H.t 1 43 rfl (hdep ⟨1, .data⟩ (by simp) rfl)),
    nb_val rfl rfl rfl rfl rfl fun L f wx hL hdep H => run_loadSl (H.t 2 44 rfl (hdep ⟨2, .data⟩ (by simp) rfl)) (LC wx H.m.b),
    nb_val rfl rfl rfl rfl rfl fun L f wx hL hdep H => congrArg (fun v => Result.ok (Next.value v) wx) (H.x (8, .pointer (some ⟨gl, m * 2, none⟩)) (by simp)),
    nb_val rfl rfl rfl rfl rfl fun L f wx hL hdep H => run_nil (H.t 4 46 rfl (hdep ⟨4, .data⟩ (by simp) rfl)),
    nb_val rfl rfl rfl rfl rfl fun L f wx hL hdep H => run_fld_line0 (H.t 5 47 rfl (hdep ⟨5, .data⟩ (by simp) rfl)),
    nb_val rfl rfl rfl rfl rfl fun L f wx hL hdep H => run_loadSl (H.t 6 48 rfl (hdep ⟨6, .data⟩ (by simp) rfl)) (LC wx H.m.b),
    nb_val rfl rfl rfl rfl rfl fun L f wx hL hdep H => run_lenP (H.t 7 49 rfl (hdep ⟨7, .data⟩ (by simp) rfl)),
    nb_val rfl rfl rfl rfl rfl fun L f wx hL hdep H => (run_sub (H.t 8 50 rfl (hdep ⟨8, .data⟩ (by simp) rfl)) rfl (by unfold Rg; omega)).trans (by rw [show ((q + 1 : Nat) : Int) - 1 = q by omega]; rfl),
    nb_val rfl rfl rfl rfl rfl fun L f wx hL hdep H => (run_indexPt (a := ⟨gp, 0, none⟩) (j := (q : Int)) (H.t 3 45 rfl (hdep ⟨3, .data⟩ (by simp) rfl)) (H.t 9 51 rfl (hdep ⟨9, .data⟩ (by simp) rfl)) (by omega) (by omega)).trans (by rw [addr0, Int.toNat_natCast]; rfl),
    nb_val rfl rfl rfl rfl rfl fun L f wx hL hdep H => run_ptRow (p := p) (H.t 10 52 rfl (hdep ⟨10, .data⟩ (by simp) rfl)) (LR wx H.m.b).1 (LR wx H.m.b).2,
    nb_new (q := ⟨12, 13, 9, pcel p, 23⟩) (c := #[.int .i64 0, .int .i64 0]) (by simp) (like_cons (.inl rfl) (like_nil _)) (ne_of_beq rfl) rfl rfl rfl rfl rfl rfl fun f w => run_allocPt,
    nb_store (q := ⟨12, 13, 9, pcel p, 23⟩) (by simp) (like_cons (.inl rfl) (like_nil _)) (ne_of_beq rfl) rfl rfl ⟨⟨12, .data⟩, by simp, rfl, rfl⟩ fun L f wx m0 c0 hdep H hp hm hv hs => by
      obtain ⟨u0, u1, rfl⟩ := size2 hs
      exact ⟨_, run_storePt hp (H.t 11 53 rfl (hdep ⟨11, .data⟩ (by simp) rfl)) hv, below_set2 H.m.b hm, hv.set2, same2⟩, trivial⟩
          intro L f act w4 hall H ha
          refine hKn _ _ ?_
          have k0 : f 0 = .slice (some a) n c := H.x (0, .slice (some a) n c) (by simp)
          have k1 : f 1 = gD 1 := H.x (1, gD 1) (by simp)
          have k2 : f 2 = gD 2 := H.x (2, gD 2) (by simp)
          have k3 : f 3 = gD 3 := H.x (3, gD 3) (by simp)
          have k4 : f 4 = gD 4 := H.x (4, gD 4) (by simp)
          have k5 : f 5 = .slice (some ⟨gl, 0, none⟩) (m + 1) cl := H.x (5, .slice (some ⟨gl, 0, none⟩) (m + 1) cl) (by simp)
          have k6 : f 6 = gD 6 := H.x (6, gD 6) (by simp)
          have k7 : f 7 = .pointer (some ⟨b7, 0, none⟩) := H.x (7, .pointer (some ⟨b7, 0, none⟩)) (by simp)
          have k8 : f 8 = .pointer (some ⟨gl, m * 2, none⟩) := H.x (8, .pointer (some ⟨gl, m * 2, none⟩)) (by simp)
          have k10 : f 10 = gD 10 := H.x (10, gD 10) (by simp)
          have k11 : f 11 = gD 11 := H.x (11, gD 11) (by simp)
          have k12 : f 12 = gD 12 := H.x (12, gD 12) (by simp)
          have k13 : f 13 = gD 13 := H.x (13, gD 13) (by simp)
          have k14 : f 14 = gD 14 := H.x (14, gD 14) (by simp)
          have k15 : f 15 = .slice (some a) n c := H.x (15, .slice (some a) n c) (by simp)
          have k16 : f 16 = .int .i64 (n : Int) := H.x (16, .int .i64 (n : Int)) (by simp)
          have k17 : f 17 = .int .i64 (k : Int) := H.x (17, .int .i64 (k : Int)) (by simp)
          have k66 : f 66 = gD 66 := H.x (66, gD 66) (by simp)
          obtain ⟨b9, k9, hbb9x, hvb9x⟩ := H.m.done (q := ⟨12, 13, 9, pcel p, 23⟩) (hall 12 (by decide)) (hall 13 (by decide)) (by simp)
          have HBW := hid H.m.b
          have hw := ha.whole
          rw [show ((List.range 67).map f).toArray = #[f 0, f 1, f 2, f 3, f 4, f 5, f 6, f 7, f 8, f 9, f 10, f 11, f 12, f 13, f 14, f 15, f 16, f 17, f 18, f 19, f 20, f 21, f 22, f 23, f 24, f 25, f 26, f 27, f 28, f 29, f 30, f 31, f 32, f 33, f 34, f 35, f 36, f 37, f 38, f 39, f 40, f 41, f 42, f 43, f 44, f 45, f 46, f 47, f 48, f 49, f 50, f 51, f 52, f 53, f 54, f 55, f 56, f 57, f 58, f 59, f 60, f 61, f 62, f 63, f 64, f 65, f 66] from rfl] at hw
          rw [k0, k1, k2, k3, k4, k5, k6, k7, k8, k10, k11, k12, k13, k14, k15, k16, k17, k66, k9] at hw
          subst hw
          clear ha H hall hKn k0 k1 k2 k3 k4 k5 k6 k7 k8 k10 k11 k12 k13 k14 k15 k16 k17 k66 k9 Kn
          clear L
          have hb4 := HBW.out
          have HB9 := hid hvb9x
          clear hvb9x hbb9x HBW
          have HO4 := hid (HO2.out.next hb4)
          have HCUR4 := hid (HCUR.out.next hb4)
          have HV74 := hid (HV7.out.next hb4)
          have hBW : B ≤ w4.heap.size := Nat.le_trans HS2.out hb4.size
          have HB44 := hid (HB2.out.trans (hb4.mono HS2.out))
          have hown : w4.ownsRow B 23 2 (.slice (some ⟨gp, 0, none⟩) (q + 1) cp) e.2.ps.length (pfl e.2.ps) := by rw [← HVE.out]; exact own_next HPE.out.1 hb4
          have hrl := (replP_last hinc).2.1
          have hlen : e.2.ps.length + (replP p s).length ≤ 1000000 := by have := (replP_last hinc).2.2; omega
          have hnb : (Value.slice (some ⟨gp, 0, none⟩) (q + 1) cp).ownBlock ≠ some gl := by
            intro k0
            exact own_apart hown HO4.out.r (by decide) HPE.out.2 (by rw [k0]; rfl)
          go_upto_region 14 with fail
          rename_i Kn hKn
          have LC := fun wx (hb : Below w4.heap.size w4 wx) => ((HCUR4.out.next hb).cell (m * 2)).trans hcell
          have L9 := fun wx (hb : Below w4.heap.size w4 wx) => HB9.out.next hb
          have L7 := fun wx (hb : Below w4.heap.size w4 wx) => HV74.out.next hb
          clear LR HO2 HB2 HCUR HV7 HROW
          rename Hid (Var w4 gl cur 44) => HCUR
          refine Iv.wp_region_inv (n := 67) (TJ [some 54, some 55, some 56, some 57, some 58, some 59, some 60, none, none, some 63, some 64, none]
              [.pointer (some ⟨gl, m * 2, none⟩), .pointer (some ⟨gl, m * 2, none⟩), .pointer (some ⟨gl, m * 2, none⟩), .pointer (some ⟨gl, m * 2, none⟩), .slice (some ⟨gp, 0, none⟩) (q + 1) cp, ptv p, seg s, undef, undef, .pointer (some ⟨gl, m * 2, none⟩), .pointer (some ⟨gl, m * 2, none⟩), undef]
              [(0, .slice (some a) n c), (1, gD 1), (2, gD 2), (3, gD 3), (4, gD 4), (5, .slice (some ⟨gl, 0, none⟩) (m + 1) cl), (6, gD 6), (7, .pointer (some ⟨b7, 0, none⟩)), (8, .pointer (some ⟨gl, m * 2, none⟩)), (9, .pointer (some ⟨b9, 0, none⟩)), (10, gD 10), (11, gD 11), (12, gD 12), (13, gD 13), (14, gD 14), (15, .slice (some a) n c), (16, .int .i64 (n : Int)), (17, .int .i64 (k : Int)), (66, gD 66)] (MApp w4 B (.slice (some ⟨gp, 0, none⟩) (q + 1) cp) e.2.ps (replP p s) ⟨gl, m * 2, none⟩ 7 8 11 61 62 [(7, 5), (7, 6), (8, 4), (8, 7), (8, 5), (8, 6), (11, 8)])) _ (by kernel_rfl) (by kernel_rfl) (Is.start _ rfl) ?_ ?_ ?_
          · refine ⟨fun i d _ h => (by cases h), fun q hq => ?_, MApp.start⟩
            simp only [List.mem_cons, List.not_mem_nil, or_false] at hq
            rcases hq with rfl | rfl | rfl | rfl | rfl | rfl | rfl | rfl | rfl | rfl | rfl | rfl | rfl | rfl | rfl | rfl | rfl | rfl | rfl
            all_goals rfl
          · exact ⟨ma_val rfl rfl rfl rfl rfl fun L f wx hL hdep H => congrArg (fun v => Result.ok (Next.value v) wx) (H.x (8, .pointer (some ⟨gl, m * 2, none⟩)) (by simp)),
    ma_val rfl rfl rfl rfl rfl fun L f wx hL hdep H => congrArg (fun v => Result.ok (Next.value v) wx) (H.x (8, .pointer (some ⟨gl, m * 2, none⟩)) (by simp)),
    ma_val rfl rfl rfl rfl rfl fun L f wx hL hdep H => run_nil (H.t 1 55 rfl (hdep ⟨1, .data⟩ (by simp) rfl)),
    ma_val rfl rfl rfl rfl rfl fun L f wx hL hdep H => run_fld_line0 (H.t 2 56 rfl (hdep ⟨2, .data⟩ (by simp) rfl)),
    ma_val rfl rfl rfl rfl rfl fun L f wx hL hdep H => run_loadSl (H.t 3 57 rfl (hdep ⟨3, .data⟩ (by simp) rfl)) (LC wx (H.m.old hL (by simp))),
    ma_val rfl rfl rfl rfl rfl fun L f wx hL hdep H => run_loadPt (H.x (9, .pointer (some ⟨b9, 0, none⟩)) (by simp)) (L9 wx (H.m.old hL (by simp))),
    ma_val rfl rfl rfl rfl rfl fun L f wx hL hdep H => run_loadSegV (H.x (7, .pointer (some ⟨b7, 0, none⟩)) (by simp)) (L7 wx (H.m.old hL (by simp))),
    ma_call rfl rfl rfl rfl rfl rfl rfl rfl hrl (by simp) (by simp) (fun L hdep q hq e0 => by
      simp only [List.mem_cons, List.not_mem_nil, or_false] at hq
      rcases hq with rfl | rfl | rfl | rfl | rfl | rfl | rfl
      all_goals first
        | exact absurd e0 (by decide)
        | exact hdep ⟨5, .data⟩ (by simp) rfl
        | exact hdep ⟨6, .data⟩ (by simp) rfl
) fun L f wx hL hdep H hb => ⟨_, (run_call2 rfl enters_repl).trans (by rw [show env f (.tmp 59) = ptv p from (H.t 5 59 rfl (hdep ⟨5, .data⟩ (by simp) rfl)), show env f (.tmp 60) = seg s from (H.t 6 60 rfl (hdep ⟨6, .data⟩ (by simp) rfl))]), repl_any p s wx hinc⟩,
    ma_app rfl rfl rfl rfl rfl rfl rfl rfl hrl hlen hBW (by simp) ⟨⟨7, .data⟩, by simp, rfl, rfl⟩ (fun L hq0 hdep q hq e0 => by
      simp only [List.mem_cons, List.not_mem_nil, or_false] at hq
      rcases hq with rfl | rfl | rfl | rfl | rfl | rfl | rfl
      all_goals first
        | exact absurd e0 (by decide)
        | exact hdep ⟨4, .data⟩ (by simp) rfl
        | exact hdep ⟨7, .data⟩ (by simp) rfl
        | exact hq0 (7, 5) (by simp) (hdep ⟨7, .data⟩ (by simp) rfl)
        | exact hq0 (7, 6) (by simp) (hdep ⟨7, .data⟩ (by simp) rfl)
) rfl hown rfl fun L f wx hdep H => (H.t 4 58 rfl (hdep ⟨4, .data⟩ (by simp) rfl)),
    ma_val rfl rfl rfl rfl rfl fun L f wx hL hdep H => run_nil (H.t 0 54 rfl (hdep ⟨0, .data⟩ (by simp) rfl)),
    ma_val rfl rfl rfl rfl rfl fun L f wx hL hdep H => run_fld_line0 (H.t 9 63 rfl (hdep ⟨9, .data⟩ (by simp) rfl)),
    ma_store rfl rfl rfl rfl ⟨⟨8, .data⟩, by simp, rfl, rfl⟩ (fun L hdep q hq e0 => by
      simp only [List.mem_cons, List.not_mem_nil, or_false] at hq
      rcases hq with rfl | rfl | rfl | rfl | rfl | rfl | rfl
      all_goals first
        | exact absurd e0 (by decide)
        | exact hdep ⟨8, .data⟩ (by simp) rfl
) rfl rfl (fun L f wx hdep H => (H.t 10 64 rfl (hdep ⟨10, .data⟩ (by simp) rfl))) fun ρ wx v hR hx hy => by
      obtain ⟨⟨u, hu⟩, hfz⟩ := app_cell hR HCUR.out hmc hnb
      obtain ⟨g9, c9, hv9, -, -⟩ := hR.f
      rw [hv9] at hy ⊢
      exact run_storeSl hx hy hu hfz, trivial⟩
          intro L f act w5 hall H ha
          refine hKn _ _ ?_
          obtain ⟨wa, hR, hwa⟩ := H.m.s (hall 11 (by decide))
          have k0 : f 0 = .slice (some a) n c := H.x (0, .slice (some a) n c) (by simp)
          have k1 : f 1 = gD 1 := H.x (1, gD 1) (by simp)
          have k2 : f 2 = gD 2 := H.x (2, gD 2) (by simp)
          have k3 : f 3 = gD 3 := H.x (3, gD 3) (by simp)
          have k4 : f 4 = gD 4 := H.x (4, gD 4) (by simp)
          have k5 : f 5 = .slice (some ⟨gl, 0, none⟩) (m + 1) cl := H.x (5, .slice (some ⟨gl, 0, none⟩) (m + 1) cl) (by simp)
          have k6 : f 6 = gD 6 := H.x (6, gD 6) (by simp)
          have k10 : f 10 = gD 10 := H.x (10, gD 10) (by simp)
          have k11 : f 11 = gD 11 := H.x (11, gD 11) (by simp)
          have k12 : f 12 = gD 12 := H.x (12, gD 12) (by simp)
          have k13 : f 13 = gD 13 := H.x (13, gD 13) (by simp)
          have k14 : f 14 = gD 14 := H.x (14, gD 14) (by simp)
          have k15 : f 15 = .slice (some a) n c := H.x (15, .slice (some a) n c) (by simp)
          have k16 : f 16 = .int .i64 (n : Int) := H.x (16, .int .i64 (n : Int)) (by simp)
          have k17 : f 17 = .int .i64 (k : Int) := H.x (17, .int .i64 (k : Int)) (by simp)
          have k66 : f 66 = gD 66 := H.x (66, gD 66) (by simp)
          have hw := ha.whole
          rw [show ((List.range 67).map f).toArray = #[f 0, f 1, f 2, f 3, f 4, f 5, f 6, f 7, f 8, f 9, f 10, f 11, f 12, f 13, f 14, f 15, f 16, f 17, f 18, f 19, f 20, f 21, f 22, f 23, f 24, f 25, f 26, f 27, f 28, f 29, f 30, f 31, f 32, f 33, f 34, f 35, f 36, f 37, f 38, f 39, f 40, f 41, f 42, f 43, f 44, f 45, f 46, f 47, f 48, f 49, f 50, f 51, f 52, f 53, f 54, f 55, f 56, f 57, f 58, f 59, f 60, f 61, f 62, f 63, f 64, f 65, f 66] from rfl] at hw
          rw [k0, k1, k2, k3, k4, k5, k6, k10, k11, k12, k13, k14, k15, k16, k17, k66] at hw
          subst hw
          generalize f 62 = v6 at hR hwa
          have hmo := OwnL.more (v := v6) (ys := replP p s) (by have := HMM.out; subst this; exact HO4.out) hBW (by rw [HVE.out]; exact hR)
          rw [HMM.out, ← hwa] at hmo
          have HO6 := hid hmo.1
          have HB6 := hid (HB44.out.trans hmo.2)
          have HS6 := hid (show B ≤ w5.heap.size from Nat.le_trans hBW hmo.2.size)
          have HE6 := hid (show (es ++ [(v6, (⟨e.2.ps ++ replP p s, e.2.cl⟩ : Ln))]).map (·.2) = flatL (ss.take (k + 1)) by rw [List.map_append, HLS.out, HM4.out]; rfl)
          have HL6 := hid (show (es ++ [(v6, (⟨e.2.ps ++ replP p s, e.2.cl⟩ : Ln))]).length ≤ k + 1 by have := HLE.out; simp at this ⊢; omega)
          clear hmo hR hwa H ha hall k0 k1 k2 k3 k4 k5 k6 k10 k11 k12 k13 k14 k15 k16 k17 k66 LC L9 L7 hown hrl hlen hnb hBW hb4 HO4 HB44 HCUR HV74 HB9 hcell hmc hmc0 HMM HVE HPE hKn
          go_wp2_with fail
          go_roundw
          case rel => exact ⟨k + 1, es ++ [(v6, ⟨e.2.ps ++ replP p s, e.2.cl⟩)], by omega, by go_num, HO6, HE6, HL6, HB6, HS6⟩
          case measure => simp [intOf]; omega
    · have hkn : k = n := by omega
      subst hkn
      clear hlt
      go_wp2_with fail
      go_ret2
      refine ⟨_, es, rfl, by rw [← HBE.out]; exact HO.out, ?_, by rw [← HBE.out]; exact HBK.out⟩
      rw [HE.out, List.take_of_length_le (by rw [HN.out]; exact Nat.le_refl _)]

end Go.Proofs.Ytcdedefhofkbhaa
