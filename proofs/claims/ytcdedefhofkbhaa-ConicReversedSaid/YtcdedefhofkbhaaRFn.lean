/- What Flattened of the reference returns. -/
import Derived.Test.YtcdedefhofkbhaaRFl
namespace Go.Proofs.Ytcdedefhofkbhaa
open Go Go.RowKit
set_option linter.unusedVariables false
set_option linter.unusedSimpArgs false

section
variable {ρ : Operand → Value} {dst : Option Tmp} {ty : TypeId} {pos : String} {af : Array Edge} {x y : Operand} {w : World} {gd : Option (Nat × Bool)}
theorem run_fldA1 {b : Addr} (hx : ρ x = .pointer (some b)) :
    (execOp ρ { dst := dst, op := .fieldAddr 25 x 1, type := ty, pos := pos, after := af, guard := gd }).run Try.prog w = .ok (.value (.pointer (some ⟨b.block, b.off + 1, none⟩))) w := by
  go_simp
theorem run_fldA2 {b : Addr} (hx : ρ x = .pointer (some b)) :
    (execOp ρ { dst := dst, op := .fieldAddr 25 x 2, type := ty, pos := pos, after := af, guard := gd }).run Try.prog w = .ok (.value (.pointer (some ⟨b.block, b.off + 2, none⟩))) w := by
  go_simp
theorem run_idx {a : Addr} {j n c : Nat} (hx : ρ x = .slice (some a) n c) (hy : ρ y = .int .i64 (j : Int)) (hj : j < n) :
    (execOp ρ { dst := dst, op := .indexAddr 35 x y, type := ty, pos := pos, after := af, guard := gd }).run Try.prog w = .ok (.value (.pointer (some (a.add (j * 6))))) w := by
  have h0 : (0 : Int) ≤ (j : Int) := by omega
  have h1 : (j : Int) < (n : Int) := by omega
  have := run_index (dst := dst) (ty := ty) (pos := pos) (af := af) (w := w) (gd := gd) hx hy h0 h1
  rwa [Int.toNat_natCast] at this
theorem run_allocLn : (execOp ρ { dst := dst, op := .alloc 44, type := ty, pos := pos, after := af, guard := gd }).run Try.prog w = .ok (.value (.pointer (some ⟨w.heap.size, 0, none⟩))) (w.alloc (.cells #[.slice none 0 0, .bool false] 44)) := by
  go_simp
theorem run_storeLn {B : Nat} {A : Option Addr} {n c : Nat} {b : Bool} {u0 u1 : Value} (hp : ρ x = .pointer (some ⟨B, 0, none⟩)) (hq : ρ y = .agg #[.slice A n c, .bool b]) (hV : Var w B #[u0, u1] 44) :
    (execOp ρ { dst := dst, op := .store 44 x y, type := ty, pos := pos, after := af, guard := gd }).run Try.prog w = .ok .skip ((w.setCell ⟨B, 0, none⟩ (.slice A n c)).setCell ⟨B, 1, none⟩ (.bool b)) := by
  obtain ⟨q0, q1, qf⟩ := hV.read2
  go_simp
theorem run_loadLn {B : Nat} {v : Value} {b : Bool} (hp : ρ x = .pointer (some ⟨B, 0, none⟩)) (hV : Var w B #[v, .bool b] 44) :
    (execOp ρ { dst := dst, op := .load 44 x, type := ty, pos := pos, after := af, guard := gd }).run Try.prog w = .ok (.value (.agg #[v, .bool b])) w := by
  obtain ⟨q0, q1, -⟩ := hV.read2
  go_simp
end
theorem enters_rcp : Enters Try.prog 25 := enters_of Try.func25 (by kernel_rfl) rfl
theorem rcp_any (p : P2) (s : Sg) (w : World) (h : s.k = 2 ∨ s.k = 3 ∧ InC (cuOf p s)) : Calls Try.prog 25 #[ptv p, seg s] w (GivesPts (replP p s) w) := by
  unfold replP
  rcases h with h | ⟨h, hc⟩
  · rw [if_pos h]; exact rcp_line p s w h
  · rw [if_neg (by omega)]; exact rcp_curve p s w h hc
/-- The cell that is stored to is there behind the append, of a line of its own block. -/
theorem app_cell1 {W w : World} {B b6 : Nat} {vo v u0 u1 : Value} {xs ys : List P2} (h : AppRes W B vo xs ys w v) (hV : Var W b6 #[u0, u1] 44) (hne : vo.ownBlock ≠ some b6) : w.cell? ⟨b6, 0, none⟩ = some u0 ∧ w.frozen? ⟨b6, 0, none⟩ = false := by
  have hV2 : Var w b6 #[u0, u1] 44 := hV.keep (h.g.block b6 hV.lt (fun k => hne k.symm))
  exact ⟨hV2.cell 0, hV2.free 0⟩
/-- A call that returns a row of lines. -/
def GivesLs (ls : List Ln) (w : World) (e : Ending) (w' : World) : Prop := ∃ v es, e = .returned v ∧ OwnL w' w.heap.size v es ∧ es.map (·.2) = ls ∧ Below w.heap.size w w'

set_option maxHeartbeats 6400000 in
set_option maxRecDepth 100000 in
theorem rflattened_any (A : Option Addr) (ss : List Sg) (n c : Nat) (w : World) (hn : n = ss.length) (hs : Segs w A ss) (h : chk ss = 0) :
    Calls Try.prog 28 #[.slice A n c] w (GivesLs (flatL ss) w) := by
  have HN := hid hn
  have HS := hid hs
  have HCH := hid h
  have HTK := fun k (h1 : k < ss.length) => hid (flatL_take h1)
  have HOK := fun k (h1 : k < ss.length) => hid (chk_okay h ss[k] (List.getElem_mem h1))
  have hn1000 : n ≤ 1000 := by rw [hn]; exact chk_le h
  obtain ⟨B, hB⟩ : ∃ B, B = w.heap.size := ⟨_, rfl⟩
  have HBE := hid hB
  have HB := hid (show Below B w w from Below.refl _ _)
  clear hn hs h hB
  go_enter Try.func28, Try.ntmps28
  go_upto_region 2 with fail
  rename ∀ (a : Act) (w : World), Code.wp _ _ _ a w → (_ : Act → World → Prop) a w => hKn
  refine wp_region_lit ?_
  refine sq_start (n := 71) rfl fun a0 hs0 => ?_
  have ha0 := ((hs0.pin 0 (v := .slice A n c) rfl).pin 3 (v := .slice none 0 0) rfl)
  clear hs0
  generalize (fun i => Array.getD _ i undef) = g0 at ha0
  refine sq_val (v := .int .i64 (0)) ha0 rfl (rfl) fun a1 ha1 => ?_
  refine wpList_nil ?_
  refine hKn _ _ ?_
  obtain ⟨gD, hg9, k0, k3, k4⟩ : ∃ g9, Is a1 71 g9 ∧ g9 0 = .slice A n c ∧ g9 3 = .slice none 0 0 ∧ g9 4 = .int .i64 (0) := ⟨_, ha1, rfl, rfl, rfl⟩
  have hw := hg9.whole
  rw [show ((List.range 71).map gD).toArray = #[gD 0, gD 1, gD 2, gD 3, gD 4, gD 5, gD 6, gD 7, gD 8, gD 9, gD 10, gD 11, gD 12, gD 13, gD 14, gD 15, gD 16, gD 17, gD 18, gD 19, gD 20, gD 21, gD 22, gD 23, gD 24, gD 25, gD 26, gD 27, gD 28, gD 29, gD 30, gD 31, gD 32, gD 33, gD 34, gD 35, gD 36, gD 37, gD 38, gD 39, gD 40, gD 41, gD 42, gD 43, gD 44, gD 45, gD 46, gD 47, gD 48, gD 49, gD 50, gD 51, gD 52, gD 53, gD 54, gD 55, gD 56, gD 57, gD 58, gD 59, gD 60, gD 61, gD 62, gD 63, gD 64, gD 65, gD 66, gD 67, gD 68, gD 69, gD 70] from rfl] at hw
  rw [k0, k3, k4] at hw
  subst hw
  clear hg9 k0 k3 k4
  clear ha0 ha1 hKn
  go_wp2_with fail
  go_loopw [3, 4] (fun s3 s4 wr => ∃ (i : Nat) (es : List LE), i ≤ n ∧ s4 = .int .i64 i ∧ Hid (∀ h : i < ss.length, ss[i].k = 1) ∧ Hid (OwnL wr B s3 es) ∧ Hid (es.map (·.2) = flatL (ss.take i)) ∧ Hid (es.length ≤ i) ∧ Hid (Below B w wr) ∧ Hid (B ≤ wr.heap.size)) (fun _ s4 _ => n - (intOf s4).toNat)
  case atStart => exact ⟨0, [], Nat.zero_le _, rfl, hid (fun h => chk_first HCH.out h), hid (OwnL.nil _ _), hid rfl, hid (Nat.le_refl _), HB, hid (by rw [HBE.out]; exact Nat.le_refl _)⟩
  case round =>
    obtain ⟨i, es, hi, rfl, HMV, HO, HE, HLE, HBK, HBS⟩ := hrel
    clear HB
    by_cases hlt : i < n
    · have hil : i < ss.length := by rw [← HN.out]; exact hlt
      obtain ⟨a, rfl, hal, hsa⟩ := HS.out.at_ hil
      have HAL0 := hid (show a.block < w.heap.size from hal)
      have hsa' := hsa.below HBK.out (by rw [add_block, HBE.out]; exact hal)
      have HA := hid hsa'
      have hmv := HMV.out hil
      have HO1 := HOK i hil
      have HT := hid ((HTK i hil).out.trans (addL_move _ hmv))
      clear hsa hsa' hal HMV hmv
      have HOKs := HO1
      generalize ss[i] = s at HA HO1 HT HOKs
      go_upto_region 5 with fail
      have LS := fun wx (hb : Below wr.heap.size wr wx) => HA.out.below hb (by rw [add_block]; exact Nat.lt_of_lt_of_le HAL0.out (by rw [← HBE.out]; exact HBS.out))
      rename_i Kn hKn
      refine Iv.wp_region_inv (n := 71) (TJ [some 15, some 16, some 17, some 18, some 19, some 20, some 21, some 22, some 23, some 24, some 25, none, none]
          [.slice (some a) n c, .int .i64 ((i : Int)), .pointer (some (a.add (i * 6))), .pointer (some ⟨(a.add (i * 6)).block, (a.add (i * 6)).off + 1, none⟩), .int .i64 (s.x), .slice (some a) n c, .int .i64 ((i : Int)), .pointer (some (a.add (i * 6))), .pointer (some ⟨(a.add (i * 6)).block, (a.add (i * 6)).off + 2, none⟩), .int .i64 (s.y), pt s.x s.y, undef, undef]
          [(0, .slice (some a) n c), (1, gD 1), (2, gD 2), (70, gD 70), (3, u3), (4, .int .i64 ((i : Int)))] (MB wr [⟨11, 12, 5, pcel ⟨s.x, s.y⟩, 23⟩])) _ (by kernel_rfl) (by kernel_rfl) (Is.start _ rfl) ?_ ?_ ?_
      · refine ⟨fun i d _ h => (by cases h), fun q hq => ?_, MB.start wr _ _⟩
        simp only [List.mem_cons, List.not_mem_nil, or_false] at hq
        rcases hq with rfl | rfl | rfl | rfl | rfl | rfl
        all_goals rfl
      · exact ⟨nb_val rfl rfl rfl rfl rfl fun L f wx hL hdep H => congrArg (fun v => Result.ok (Next.value v) wx) (H.x (0, .slice (some a) n c) (by simp)),
    nb_val rfl rfl rfl rfl rfl fun L f wx hL hdep H => congrArg (fun v => Result.ok (Next.value v) wx) (H.x (4, .int .i64 ((i : Int))) (by simp)),
    nb_val rfl rfl rfl rfl rfl fun L f wx hL hdep H => run_idx (H.t 0 15 rfl (hdep ⟨0, .data⟩ (by simp) rfl)) (H.t 1 16 rfl (hdep ⟨1, .data⟩ (by simp) rfl)) hlt,
    nb_val rfl rfl rfl rfl rfl fun L f wx hL hdep H => run_fldA1 (H.t 2 17 rfl (hdep ⟨2, .data⟩ (by simp) rfl)),
    nb_val rfl rfl rfl rfl rfl fun L f wx hL hdep H => run_loadFld (H.t 3 18 rfl (hdep ⟨3, .data⟩ (by simp) rfl)) (LS wx H.m.b).c1,
    nb_val rfl rfl rfl rfl rfl fun L f wx hL hdep H => congrArg (fun v => Result.ok (Next.value v) wx) (H.x (0, .slice (some a) n c) (by simp)),
    nb_val rfl rfl rfl rfl rfl fun L f wx hL hdep H => congrArg (fun v => Result.ok (Next.value v) wx) (H.x (4, .int .i64 ((i : Int))) (by simp)),
    nb_val rfl rfl rfl rfl rfl fun L f wx hL hdep H => run_idx (H.t 5 20 rfl (hdep ⟨5, .data⟩ (by simp) rfl)) (H.t 6 21 rfl (hdep ⟨6, .data⟩ (by simp) rfl)) hlt,
    nb_val rfl rfl rfl rfl rfl fun L f wx hL hdep H => run_fldA2 (H.t 7 22 rfl (hdep ⟨7, .data⟩ (by simp) rfl)),
    nb_val rfl rfl rfl rfl rfl fun L f wx hL hdep H => run_loadFld (H.t 8 23 rfl (hdep ⟨8, .data⟩ (by simp) rfl)) (LS wx H.m.b).c2,
    nb_val rfl rfl rfl rfl rfl fun L f wx hL hdep H => run_buildPt (H.t 4 19 rfl (hdep ⟨4, .data⟩ (by simp) rfl)) (H.t 9 24 rfl (hdep ⟨9, .data⟩ (by simp) rfl)),
    nb_new (q := ⟨11, 12, 5, pcel ⟨s.x, s.y⟩, 23⟩) (c := #[.int .i64 0, .int .i64 0]) (by simp) (like_cons (.inl rfl) (like_nil _)) (ne_of_beq rfl) rfl rfl rfl rfl rfl rfl fun f w => run_allocPt,
    nb_store (q := ⟨11, 12, 5, pcel ⟨s.x, s.y⟩, 23⟩) (by simp) (like_cons (.inl rfl) (like_nil _)) (ne_of_beq rfl) rfl rfl ⟨⟨11, .data⟩, by simp, rfl, rfl⟩ fun L f wx m0 c0 hdep H hp hm hv hs => by
      obtain ⟨u0, u1, rfl⟩ := size2 hs
      exact ⟨_, run_storePt hp (H.t 10 25 rfl (hdep ⟨10, .data⟩ (by simp) rfl)) hv, below_set2 H.m.b hm, hv.set2, same2⟩, trivial⟩
      intro L f act w5 hall H ha
      refine hKn _ _ ?_
      have k0 : f 0 = .slice (some a) n c := H.x (0, .slice (some a) n c) (by simp)
      have k1 : f 1 = gD 1 := H.x (1, gD 1) (by simp)
      have k2 : f 2 = gD 2 := H.x (2, gD 2) (by simp)
      have k3 : f 3 = u3 := H.x (3, u3) (by simp)
      have k4 : f 4 = .int .i64 ((i : Int)) := H.x (4, .int .i64 ((i : Int))) (by simp)
      have k70 : f 70 = gD 70 := H.x (70, gD 70) (by simp)
      obtain ⟨b5, k5, hbb5x, hvb5x⟩ := H.m.done (q := ⟨11, 12, 5, pcel ⟨s.x, s.y⟩, 23⟩) (hall 11 (by decide)) (hall 12 (by decide)) (by simp)
      have HBW := hid H.m.b
      have hw := ha.whole
      rw [show ((List.range 71).map f).toArray = #[f 0, f 1, f 2, f 3, f 4, f 5, f 6, f 7, f 8, f 9, f 10, f 11, f 12, f 13, f 14, f 15, f 16, f 17, f 18, f 19, f 20, f 21, f 22, f 23, f 24, f 25, f 26, f 27, f 28, f 29, f 30, f 31, f 32, f 33, f 34, f 35, f 36, f 37, f 38, f 39, f 40, f 41, f 42, f 43, f 44, f 45, f 46, f 47, f 48, f 49, f 50, f 51, f 52, f 53, f 54, f 55, f 56, f 57, f 58, f 59, f 60, f 61, f 62, f 63, f 64, f 65, f 66, f 67, f 68, f 69, f 70] from rfl] at hw
      rw [k0, k1, k2, k3, k4, k70, k5] at hw
      subst hw
      clear ha H hall hKn k0 k1 k2 k3 k4 k70 k5 Kn
      clear L
      have hb5 := HBW.out
      have HB5 := hid hvb5x
      have HL5 := hid (show wr.heap.size ≤ b5 from hbb5x)
      have HO5 := hid (HO.out.next hb5)
      have HLTS := hid (show ∀ e ∈ es, e.1.ownBlock ≠ some b5 from fun e he => by
        obtain ⟨g1, c1, hv1, -, hg1⟩ := own_lt (HO.out.p e he).1 (HO.out.p e he).2
        rw [hv1]
        intro hh
        have : g1 = b5 := by simpa [Value.ownBlock] using hh
        have := HL5.out
        omega)
      have HB55 := hid (HBK.out.trans (hb5.mono HBS.out))
      have HS5 := hid (show B ≤ w5.heap.size from Nat.le_trans HBS.out hb5.size)
      have HBb5 := hid (show B ≤ b5 from Nat.le_trans HBS.out HL5.out)
      clear hb5 hvb5x hbb5x HBW LS HO HBK HBS HA HL5
      clear wr
      go_upto_region 6 with fail
      rename ∀ (a : Act) (w : World), Code.wp _ _ _ a w → (_ : Act → World → Prop) a w => hKn
      refine wp_region_lit ?_
      refine sq_start (n := 71) rfl fun a0 hs0 => ?_
      have ha0 := (((((((hs0.pin 0 (v := .slice (some a) n c) rfl).pin 1 (v := gD 1) rfl).pin 2 (v := gD 2) rfl).pin 3 (v := u3) rfl).pin 4 (v := .int .i64 ((i : Int))) rfl).pin 5 (v := .pointer (some ⟨b5, 0, none⟩)) rfl).pin 70 (v := gD 70) rfl)
      clear hs0
      generalize (fun i => Array.getD _ i undef) = g0 at ha0
      refine sq_val ha0 rfl (run_loadPt rfl HB5.out) fun a1 ha1 => ?_
      refine sq_val ha1 rfl (run_litPt (a := s.x) (b := s.y) rfl) fun a2 ha2 => ?_
      refine sq_val ha2 rfl (run_buildLn rfl) fun a3 ha3 => ?_
      refine sq_val ha3 rfl (run_allocLn) fun a4 ha4 => ?_
      refine sq_skip ha4 (run_storeLn rfl rfl (Var.new (w5.alloc _) _ _ _ rfl)) fun a5 ha5 => ?_
      refine wpList_nil ?_
      refine hKn _ _ ?_
      obtain ⟨gE, hg9, k0, k1, k2, k3, k4, k5, k6, k70⟩ : ∃ g9, Is a5 71 g9 ∧ g9 0 = .slice (some a) n c ∧ g9 1 = gD 1 ∧ g9 2 = gD 2 ∧ g9 3 = u3 ∧ g9 4 = .int .i64 ((i : Int)) ∧ g9 5 = .pointer (some ⟨b5, 0, none⟩) ∧ g9 6 = .pointer (some ⟨(w5.alloc (.cells (pcel ⟨s.x, s.y⟩) 23)).heap.size, 0, none⟩) ∧ g9 70 = gD 70 := ⟨_, ha5, rfl, rfl, rfl, rfl, rfl, rfl, rfl, rfl⟩
      have hw := hg9.whole
      rw [show ((List.range 71).map gE).toArray = #[gE 0, gE 1, gE 2, gE 3, gE 4, gE 5, gE 6, gE 7, gE 8, gE 9, gE 10, gE 11, gE 12, gE 13, gE 14, gE 15, gE 16, gE 17, gE 18, gE 19, gE 20, gE 21, gE 22, gE 23, gE 24, gE 25, gE 26, gE 27, gE 28, gE 29, gE 30, gE 31, gE 32, gE 33, gE 34, gE 35, gE 36, gE 37, gE 38, gE 39, gE 40, gE 41, gE 42, gE 43, gE 44, gE 45, gE 46, gE 47, gE 48, gE 49, gE 50, gE 51, gE 52, gE 53, gE 54, gE 55, gE 56, gE 57, gE 58, gE 59, gE 60, gE 61, gE 62, gE 63, gE 64, gE 65, gE 66, gE 67, gE 68, gE 69, gE 70] from rfl] at hw
      rw [k0, k1, k2, k3, k4, k5, k6, k70] at hw
      subst hw
      clear hg9 k0 k1 k2 k3 k4 k5 k6 k70
      clear ha0 ha1 ha2 ha3 ha4 ha5 hKn
      obtain ⟨w6, hw6⟩ : ∃ w6, w6 = (((w5.alloc (.cells (pcel ⟨s.x, s.y⟩) 23)).alloc (.cells #[.slice none 0 0, .bool false] 44)).setCell ⟨(w5.alloc (.cells (pcel ⟨s.x, s.y⟩) 23)).heap.size, 0, none⟩ (.slice (some ⟨w5.heap.size, 0, none⟩) 1 1)).setCell ⟨(w5.alloc (.cells (pcel ⟨s.x, s.y⟩) 23)).heap.size, 1, none⟩ (.bool false) := ⟨_, rfl⟩
      have hsz6 : (w5.alloc (.cells (pcel ⟨s.x, s.y⟩) 23)).heap.size = w5.heap.size + 1 := by simp
      have hb6 : Below w5.heap.size w5 w6 := by rw [hw6, hsz6]; exact below_set2 (below_alloc (below_alloc (Below.refl _ w5) _) _) (by omega)
      have HI := hid (show ISt w6 B b5 (w5.heap.size + 1) u3 es (.slice (some ⟨w5.heap.size, 0, none⟩) 1 1) ⟨[⟨s.x, s.y⟩], false⟩ ⟨s.x, s.y⟩ from
        ⟨HO5.out.next hb6, ⟨by
          have hv : Var w6 w5.heap.size (pcel ⟨s.x, s.y⟩) 23 := by rw [hw6, hsz6]; exact ((Var.new w5 _ _ _ rfl).alloc _).far2 (by omega)
          exact own_of_var (ps := [⟨s.x, s.y⟩]) hv HS5.out rfl (by show 1 ≤ maxLen; unfold maxLen; decide), by show 0 < 1; omega⟩,
          by rw [hw6, hsz6]; exact (Var.new (w5.alloc _) _ _ _ (by simp)).set2, HB5.out.next hb6,
          fun e he => ⟨by
            obtain ⟨g1, c1, hv1, -, hg1⟩ := own_lt (HO5.out.p e he).1 (HO5.out.p e he).2
            rw [hv1]
            intro hh
            have : g1 = w5.heap.size := by simpa [Value.ownBlock] using hh
            omega, HLTS.out e he⟩,
          ⟨by
            intro hh
            have : w5.heap.size = b5 := by simpa [Value.ownBlock] using hh
            have := HB5.out.lt
            omega, by
            intro hh
            have := (HO5.out.r.lt _ hh).2
            omega⟩, ⟨HBb5.out, by have := HS5.out; omega⟩⟩)
      have HB6 := hid (HB55.out.trans (hb6.mono HS5.out))
      have HS6 := hid (show B ≤ w6.heap.size from Nat.le_trans HS5.out hb6.size)
      have HFL := hid (show flatL (ss.take (i + 1)) = es.map (·.2) ++ [⟨[⟨s.x, s.y⟩], false⟩] by rw [HE.out]; exact HT.out)
      have HLO := hid (LOk.move (s := s) (k := i + 1) HOKs.out (by omega))
      rw [← hw6, hsz6]
      clear hw6 hb6 hsz6 HO5 HB5 HLTS HB55 HS5 HBb5 HO1 HT HOKs
      generalize w5.heap.size + 1 = b6 at HI ⊢
      generalize Value.slice (some ⟨w5.heap.size, 0, none⟩) 1 1 = v0 at HI
      go_wp2_with fail
      go_loopw [7] (fun s7 wr => ∃ (k : Nat) (v : Value) (l : Ln), i < k ∧ k ≤ ends ss i ∧ s7 = .int .i64 k ∧ Hid (ISt wr B b5 b6 u3 es v l (lastP l)) ∧ Hid (flatL (ss.take k) = es.map (·.2) ++ [l]) ∧ Hid (LOk k l) ∧ Hid (Below B w wr) ∧ Hid (B ≤ wr.heap.size)) (fun s7 _ => ends ss i - (intOf s7).toNat)
      case atStart => exact ⟨i + 1, v0, _, by omega, ends_gt ss i, rfl, HI, HFL, HLO, HB6, HS6⟩
      case round =>
        obtain ⟨k, v, l, hik, hke, rfl, HI, HFL, HLO, HBK, HBS⟩ := hrel
        clear HB6 HS6
        have HSW := hid (show Segs wr (some a) ss from fun hne => by
          obtain ⟨a', e', hl', hr'⟩ := HS.out hne
          have : a' = a := by injection e' with e'; exact e'.symm
          subst this
          have hb := HBK.out
          rw [HBE.out] at hb
          exact ⟨_, rfl, Nat.lt_of_lt_of_le hl' hb.size, hr'.below hb hl'⟩)
        have hele : ends ss i ≤ n := by rw [HN.out]; exact ends_le hil
        go_wp2_with fail
        (with_reducible refine (rends_any (some a) ss n c i wr HN.out HSW.out (by rw [← HN.out]; exact hn1000) hil).mono ?_); rintro e w9 ⟨rfl, rfl⟩
        by_cases hk : k < ends ss i
        · obtain ⟨hkl, hk1⟩ := ends_mid hik hk
          have hkn : k < n := by omega
          have hsa := (HSW.out.at_ hkl)
          obtain ⟨a2, ha2, hal2, hsa2⟩ := hsa
          cases ha2
          have HA := hid hsa2
          have HAL := hid (show (a.add (k * 6)).block < wr.heap.size by rw [add_block]; exact hal2)
          have HO1 := HOK k hkl
          have HT := hid (show flatL (ss.take (k + 1)) = es.map (·.2) ++ [updL l ss[k]] by rw [(HTK k hkl).out, HFL.out]; exact addL_last _ _ hk1)
          have HLN := hid (HLO.out.upd HO1.out hk1)
          clear hal2 hsa2 HSW
          generalize ss[k] = s at HA HO1 HT HLN hk1
          have HALB := hid (show a.block < B by rw [HBE.out]; exact HAL0.out)
          go_upto_region 10 with fail
          rename ∀ (a : Act) (w : World), Code.wp _ _ _ a w → (_ : Act → World → Prop) a w => hKn
          refine wp_region_lit ?_
          refine sq_start (n := 71) rfl fun a0 hs0 => ?_
          have ha0 := ((((((((((((((((((((((((((((((((((((hs0.pin 0 (v := .slice (some a) n c) rfl).pin 1 (v := gD 1) rfl).pin 2 (v := gD 2) rfl).pin 3 (v := u3) rfl).pin 4 (v := .int .i64 ((i : Int))) rfl).pin 5 (v := .pointer (some ⟨b5, 0, none⟩)) rfl).pin 6 (v := .pointer (some ⟨b6, 0, none⟩)) rfl).pin 7 (v := .int .i64 ((k : Int))) rfl).pin 8 (v := gE 8) rfl).pin 9 (v := gE 9) rfl).pin 10 (v := gE 10) rfl).pin 11 (v := gE 11) rfl).pin 12 (v := gE 12) rfl).pin 13 (v := gE 13) rfl).pin 14 (v := gE 14) rfl).pin 15 (v := gE 15) rfl).pin 16 (v := gE 16) rfl).pin 17 (v := gE 17) rfl).pin 18 (v := gE 18) rfl).pin 19 (v := gE 19) rfl).pin 20 (v := gE 20) rfl).pin 21 (v := gE 21) rfl).pin 22 (v := gE 22) rfl).pin 23 (v := gE 23) rfl).pin 24 (v := gE 24) rfl).pin 25 (v := gE 25) rfl).pin 26 (v := gE 26) rfl).pin 27 (v := gE 27) rfl).pin 28 (v := gE 28) rfl).pin 29 (v := .int .i64 ((i : Int))) rfl).pin 30 (v := .int .i64 ((i : Int) + 1)) rfl).pin 66 (v := gE 66) rfl).pin 67 (v := gE 67) rfl).pin 68 (v := gE 68) rfl).pin 69 (v := gE 69) rfl).pin 70 (v := gD 70) rfl)
          clear hs0
          generalize (fun i => Array.getD _ i undef) = g0 at ha0
          refine sq_val ha0 rfl (rfl) fun a1 ha1 => ?_
          refine sq_val ha1 rfl (rfl) fun a2 ha2 => ?_
          refine sq_val ha2 rfl (run_idx rfl rfl hkn) fun a3 ha3 => ?_
          refine sq_val ha3 rfl (run_fld0 rfl) fun a4 ha4 => ?_
          refine sq_val ha4 rfl (run_loadFld rfl HA.out.c0) fun a5 ha5 => ?_
          refine sq_val ha5 rfl (run_eqInt rfl rfl) fun a6 ha6 => ?_
          refine wpList_nil ?_
          refine hKn _ _ ?_
          obtain ⟨g9, hg9, k0, k1, k2, k3, k4, k5, k6, k7, k8, k9, k10, k11, k12, k13, k14, k15, k16, k17, k18, k19, k20, k21, k22, k23, k24, k25, k26, k27, k28, k29, k30, k43, k66, k67, k68, k69, k70⟩ : ∃ g9, Is a6 71 g9 ∧ g9 0 = .slice (some a) n c ∧ g9 1 = gD 1 ∧ g9 2 = gD 2 ∧ g9 3 = u3 ∧ g9 4 = .int .i64 ((i : Int)) ∧ g9 5 = .pointer (some ⟨b5, 0, none⟩) ∧ g9 6 = .pointer (some ⟨b6, 0, none⟩) ∧ g9 7 = .int .i64 ((k : Int)) ∧ g9 8 = gE 8 ∧ g9 9 = gE 9 ∧ g9 10 = gE 10 ∧ g9 11 = gE 11 ∧ g9 12 = gE 12 ∧ g9 13 = gE 13 ∧ g9 14 = gE 14 ∧ g9 15 = gE 15 ∧ g9 16 = gE 16 ∧ g9 17 = gE 17 ∧ g9 18 = gE 18 ∧ g9 19 = gE 19 ∧ g9 20 = gE 20 ∧ g9 21 = gE 21 ∧ g9 22 = gE 22 ∧ g9 23 = gE 23 ∧ g9 24 = gE 24 ∧ g9 25 = gE 25 ∧ g9 26 = gE 26 ∧ g9 27 = gE 27 ∧ g9 28 = gE 28 ∧ g9 29 = .int .i64 ((i : Int)) ∧ g9 30 = .int .i64 ((i : Int) + 1) ∧ g9 43 = .bool (decide (s.k = 4)) ∧ g9 66 = gE 66 ∧ g9 67 = gE 67 ∧ g9 68 = gE 68 ∧ g9 69 = gE 69 ∧ g9 70 = gD 70 := ⟨_, ha6, rfl, rfl, rfl, rfl, rfl, rfl, rfl, rfl, rfl, rfl, rfl, rfl, rfl, rfl, rfl, rfl, rfl, rfl, rfl, rfl, rfl, rfl, rfl, rfl, rfl, rfl, rfl, rfl, rfl, rfl, rfl, rfl, rfl, rfl, rfl, rfl, rfl⟩
          have hw := hg9.whole
          rw [show ((List.range 71).map g9).toArray = #[g9 0, g9 1, g9 2, g9 3, g9 4, g9 5, g9 6, g9 7, g9 8, g9 9, g9 10, g9 11, g9 12, g9 13, g9 14, g9 15, g9 16, g9 17, g9 18, g9 19, g9 20, g9 21, g9 22, g9 23, g9 24, g9 25, g9 26, g9 27, g9 28, g9 29, g9 30, g9 31, g9 32, g9 33, g9 34, g9 35, g9 36, g9 37, g9 38, g9 39, g9 40, g9 41, g9 42, g9 43, g9 44, g9 45, g9 46, g9 47, g9 48, g9 49, g9 50, g9 51, g9 52, g9 53, g9 54, g9 55, g9 56, g9 57, g9 58, g9 59, g9 60, g9 61, g9 62, g9 63, g9 64, g9 65, g9 66, g9 67, g9 68, g9 69, g9 70] from rfl] at hw
          rw [k0, k1, k2, k3, k4, k5, k6, k7, k8, k9, k10, k11, k12, k13, k14, k15, k16, k17, k18, k19, k20, k21, k22, k23, k24, k25, k26, k27, k28, k29, k30, k43, k66, k67, k68, k69, k70] at hw
          subst hw
          clear hg9 k0 k1 k2 k3 k4 k5 k6 k7 k8 k9 k10 k11 k12 k13 k14 k15 k16 k17 k18 k19 k20 k21 k22 k23 k24 k25 k26 k27 k28 k29 k30 k43 k66 k67 k68 k69 k70
          clear ha0 ha1 ha2 ha3 ha4 ha5 ha6 hKn
          by_cases h4 : s.k = 4
          · rw [show decide (s.k = 4) = true by simp [h4]]
            have HFL2 := hid (show flatL (ss.take (k + 1)) = es.map (·.2) ++ [⟨l.ps, true⟩] by rw [HT.out]; unfold updL; rw [if_pos h4])
            have HLN2 := hid (show LOk (k + 1) ⟨l.ps, true⟩ by have := HLN.out; unfold updL at this; rw [if_pos h4] at this; exact this)
            clear h4
            go_upto_region 11 with fail
            rename ∀ (a : Act) (w : World), Code.wp _ _ _ a w → (_ : Act → World → Prop) a w => hKn
            refine wp_region_lit ?_
            refine sq_start (n := 71) rfl fun a0 hs0 => ?_
            have ha0 := ((((((((((((((((((((((((((((((((((((hs0.pin 0 (v := .slice (some a) n c) rfl).pin 1 (v := gD 1) rfl).pin 2 (v := gD 2) rfl).pin 3 (v := u3) rfl).pin 4 (v := .int .i64 ((i : Int))) rfl).pin 5 (v := .pointer (some ⟨b5, 0, none⟩)) rfl).pin 6 (v := .pointer (some ⟨b6, 0, none⟩)) rfl).pin 7 (v := .int .i64 ((k : Int))) rfl).pin 8 (v := gE 8) rfl).pin 9 (v := gE 9) rfl).pin 10 (v := gE 10) rfl).pin 11 (v := gE 11) rfl).pin 12 (v := gE 12) rfl).pin 13 (v := gE 13) rfl).pin 14 (v := gE 14) rfl).pin 15 (v := gE 15) rfl).pin 16 (v := gE 16) rfl).pin 17 (v := gE 17) rfl).pin 18 (v := gE 18) rfl).pin 19 (v := gE 19) rfl).pin 20 (v := gE 20) rfl).pin 21 (v := gE 21) rfl).pin 22 (v := gE 22) rfl).pin 23 (v := gE 23) rfl).pin 24 (v := gE 24) rfl).pin 25 (v := gE 25) rfl).pin 26 (v := gE 26) rfl).pin 27 (v := gE 27) rfl).pin 28 (v := gE 28) rfl).pin 29 (v := .int .i64 ((i : Int))) rfl).pin 30 (v := .int .i64 ((i : Int) + 1)) rfl).pin 66 (v := gE 66) rfl).pin 67 (v := gE 67) rfl).pin 68 (v := gE 68) rfl).pin 69 (v := gE 69) rfl).pin 70 (v := gD 70) rfl)
            clear hs0
            generalize (fun i => Array.getD _ i undef) = g0 at ha0
            refine sq_val ha0 rfl (run_fld_line1 rfl) fun a1 ha1 => ?_
            refine sq_skip ha1 (run_storeB (b := true) rfl rfl (HI.out.c6.cell 1) (HI.out.c6.free 1)) fun a2 ha2 => ?_
            refine wpList_nil ?_
            refine hKn _ _ ?_
            obtain ⟨g9, hg9, k0, k1, k2, k3, k4, k5, k6, k7, k8, k9, k10, k11, k12, k13, k14, k15, k16, k17, k18, k19, k20, k21, k22, k23, k24, k25, k26, k27, k28, k29, k30, k66, k67, k68, k69, k70⟩ : ∃ g9, Is a2 71 g9 ∧ g9 0 = .slice (some a) n c ∧ g9 1 = gD 1 ∧ g9 2 = gD 2 ∧ g9 3 = u3 ∧ g9 4 = .int .i64 ((i : Int)) ∧ g9 5 = .pointer (some ⟨b5, 0, none⟩) ∧ g9 6 = .pointer (some ⟨b6, 0, none⟩) ∧ g9 7 = .int .i64 ((k : Int)) ∧ g9 8 = gE 8 ∧ g9 9 = gE 9 ∧ g9 10 = gE 10 ∧ g9 11 = gE 11 ∧ g9 12 = gE 12 ∧ g9 13 = gE 13 ∧ g9 14 = gE 14 ∧ g9 15 = gE 15 ∧ g9 16 = gE 16 ∧ g9 17 = gE 17 ∧ g9 18 = gE 18 ∧ g9 19 = gE 19 ∧ g9 20 = gE 20 ∧ g9 21 = gE 21 ∧ g9 22 = gE 22 ∧ g9 23 = gE 23 ∧ g9 24 = gE 24 ∧ g9 25 = gE 25 ∧ g9 26 = gE 26 ∧ g9 27 = gE 27 ∧ g9 28 = gE 28 ∧ g9 29 = .int .i64 ((i : Int)) ∧ g9 30 = .int .i64 ((i : Int) + 1) ∧ g9 66 = gE 66 ∧ g9 67 = gE 67 ∧ g9 68 = gE 68 ∧ g9 69 = gE 69 ∧ g9 70 = gD 70 := ⟨_, ha2, rfl, rfl, rfl, rfl, rfl, rfl, rfl, rfl, rfl, rfl, rfl, rfl, rfl, rfl, rfl, rfl, rfl, rfl, rfl, rfl, rfl, rfl, rfl, rfl, rfl, rfl, rfl, rfl, rfl, rfl, rfl, rfl, rfl, rfl, rfl, rfl⟩
            have hw := hg9.whole
            rw [show ((List.range 71).map g9).toArray = #[g9 0, g9 1, g9 2, g9 3, g9 4, g9 5, g9 6, g9 7, g9 8, g9 9, g9 10, g9 11, g9 12, g9 13, g9 14, g9 15, g9 16, g9 17, g9 18, g9 19, g9 20, g9 21, g9 22, g9 23, g9 24, g9 25, g9 26, g9 27, g9 28, g9 29, g9 30, g9 31, g9 32, g9 33, g9 34, g9 35, g9 36, g9 37, g9 38, g9 39, g9 40, g9 41, g9 42, g9 43, g9 44, g9 45, g9 46, g9 47, g9 48, g9 49, g9 50, g9 51, g9 52, g9 53, g9 54, g9 55, g9 56, g9 57, g9 58, g9 59, g9 60, g9 61, g9 62, g9 63, g9 64, g9 65, g9 66, g9 67, g9 68, g9 69, g9 70] from rfl] at hw
            rw [k0, k1, k2, k3, k4, k5, k6, k7, k8, k9, k10, k11, k12, k13, k14, k15, k16, k17, k18, k19, k20, k21, k22, k23, k24, k25, k26, k27, k28, k29, k30, k66, k67, k68, k69, k70] at hw
            subst hw
            clear hg9 k0 k1 k2 k3 k4 k5 k6 k7 k8 k9 k10 k11 k12 k13 k14 k15 k16 k17 k18 k19 k20 k21 k22 k23 k24 k25 k26 k27 k28 k29 k30 k66 k67 k68 k69 k70
            clear ha0 ha1 ha2 hKn
            have HI2 := hid HI.out.close
            have HB2 := hid (HBK.out.setCell (p := ⟨b6, 1, none⟩) HI.out.g.2 (.bool true))
            have HS2 := hid (show B ≤ (wr.setCell ⟨b6, 1, none⟩ (.bool true)).heap.size by simpa using HBS.out)
            generalize wr.setCell ⟨b6, 1, none⟩ (.bool true) = w4 at HI2 HB2 HS2 ⊢
            clear HI HBK HBS HA HAL HT HLN HO1 HFL HLO
            go_wp2_with fail
            go_roundw
            case rel => exact ⟨k + 1, v, ⟨l.ps, true⟩, by omega, by omega, by go_num, HI2, HFL2, HLN2, HB2, HS2⟩
            case measure => simp [intOf]; omega
          · rw [show decide (s.k = 4) = false by simp [h4]]
            have HFL2 := hid (show flatL (ss.take (k + 1)) = es.map (·.2) ++ [⟨l.ps ++ replP (lastP l) s, l.cl⟩] by rw [HT.out]; unfold updL; rw [if_neg h4])
            have HLN2 := hid (show LOk (k + 1) ⟨l.ps ++ replP (lastP l) s, l.cl⟩ by have := HLN.out; unfold updL at this; rw [if_neg h4] at this; exact this)
            have hinc := inc_of HLO.out.i HO1.out hk1 h4
            clear h4 HT HLN
            have hvv := HI.out.vv
            obtain ⟨gp, cp, hve, hgpB, hgpl, hrow⟩ := own_row hvv.1 hvv.2
            obtain ⟨q, hq⟩ : ∃ q, l.ps.length = q + 1 := ⟨l.ps.length - 1, by have := hvv.2; omega⟩
            have hql : q + 1 ≤ 512 * k := by rw [← hq]; exact HLO.out.n
            generalize hp : lastP l = p at hinc HFL2 HI HLN2
            rw [hq] at hve
            subst hve
            have hown := hvv.1
            have hrl := (replP_last hinc).2.1
            have hlen : l.ps.length + (replP p s).length ≤ 1000000 := by have := (replP_last hinc).2.2; omega
            have hnb := own_var hvv.1 HI.out.c6 (by decide)
            have hBW := HBS.out
            have LC := fun wx (hb : Below wr.heap.size wr wx) => (HI.out.c6.next hb).cell 0
            have L5 := fun wx (hb : Below wr.heap.size wr wx) => HI.out.c5.next hb
            have LSg := fun wx (hb : Below wr.heap.size wr wx) => HA.out.below hb HAL.out
            clear hrow hgpB hgpl hp
            go_upto_region 12 with fail
            rename ∀ (a : Act) (w : World), Code.wp _ _ _ a w → (_ : Act → World → Prop) a w => hKn
            refine Iv.wp_region_inv (n := 71) (TJ [some 45, some 46, some 47, some 48, some 49, some 50, some 51, none, none, some 54, none]
                [.pointer (some ⟨b6, 0, none⟩), .slice (some ⟨gp, 0, none⟩) (q + 1) cp, ptv p, .slice (some a) n c, .int .i64 ((k : Int)), .pointer (some (a.add (k * 6))), seg s, undef, undef, .pointer (some ⟨b6, 0, none⟩), undef]
                [(0, .slice (some a) n c), (1, gD 1), (2, gD 2), (3, u3), (4, .int .i64 ((i : Int))), (5, .pointer (some ⟨b5, 0, none⟩)), (6, .pointer (some ⟨b6, 0, none⟩)), (7, .int .i64 ((k : Int))), (8, gE 8), (9, gE 9), (10, gE 10), (11, gE 11), (12, gE 12), (13, gE 13), (14, gE 14), (15, gE 15), (16, gE 16), (17, gE 17), (18, gE 18), (19, gE 19), (20, gE 20), (21, gE 21), (22, gE 22), (23, gE 23), (24, gE 24), (25, gE 25), (26, gE 26), (27, gE 27), (28, gE 28), (29, .int .i64 ((i : Int))), (30, .int .i64 ((i : Int) + 1)), (66, gE 66), (67, gE 67), (68, gE 68), (69, gE 69), (70, gD 70)] (MApp wr B (.slice (some ⟨gp, 0, none⟩) (q + 1) cp) l.ps (replP p s) ⟨b6, 0, none⟩ 7 8 10 52 53 [(7, 2), (7, 6), (8, 1), (8, 7), (8, 2), (8, 6), (10, 8)])) _ (by kernel_rfl) (by kernel_rfl) (Is.start _ rfl) ?_ ?_ ?_
            · refine ⟨fun i d _ h => (by cases h), fun q hq => ?_, MApp.start⟩
              simp only [List.mem_cons, List.not_mem_nil, or_false] at hq
              rcases hq with rfl | rfl | rfl | rfl | rfl | rfl | rfl | rfl | rfl | rfl | rfl | rfl | rfl | rfl | rfl | rfl | rfl | rfl | rfl | rfl | rfl | rfl | rfl | rfl | rfl | rfl | rfl | rfl | rfl | rfl | rfl | rfl | rfl | rfl | rfl | rfl
              all_goals rfl
            · exact ⟨ma_val rfl rfl rfl rfl rfl fun L f wx hL hdep H => run_fld_line0 (H.x (6, .pointer (some ⟨b6, 0, none⟩)) (by simp)),
    ma_val rfl rfl rfl rfl rfl fun L f wx hL hdep H => run_loadSl (H.t 0 45 rfl (hdep ⟨0, .data⟩ (by simp) rfl)) (LC wx (H.m.old hL (by simp))),
    ma_val rfl rfl rfl rfl rfl fun L f wx hL hdep H => run_loadPt (H.x (5, .pointer (some ⟨b5, 0, none⟩)) (by simp)) (L5 wx (H.m.old hL (by simp))),
    ma_val rfl rfl rfl rfl rfl fun L f wx hL hdep H => congrArg (fun v => Result.ok (Next.value v) wx) (H.x (0, .slice (some a) n c) (by simp)),
    ma_val rfl rfl rfl rfl rfl fun L f wx hL hdep H => congrArg (fun v => Result.ok (Next.value v) wx) (H.x (7, .int .i64 ((k : Int))) (by simp)),
    ma_val rfl rfl rfl rfl rfl fun L f wx hL hdep H => run_idx (H.t 3 48 rfl (hdep ⟨3, .data⟩ (by simp) rfl)) (H.t 4 49 rfl (hdep ⟨4, .data⟩ (by simp) rfl)) hkn,
    ma_val rfl rfl rfl rfl rfl fun L f wx hL hdep H => run_loadSeg (H.t 5 50 rfl (hdep ⟨5, .data⟩ (by simp) rfl)) (LSg wx (H.m.old hL (by simp))),
    ma_call rfl rfl rfl rfl rfl rfl rfl rfl hrl (by simp) (by simp) (fun L hdep q hq e0 => by
      simp only [List.mem_cons, List.not_mem_nil, or_false] at hq
      rcases hq with rfl | rfl | rfl | rfl | rfl | rfl | rfl
      all_goals first
        | exact absurd e0 (by decide)
        | exact hdep ⟨2, .data⟩ (by simp) rfl
        | exact hdep ⟨6, .data⟩ (by simp) rfl
) fun L f wx hL hdep H hb => ⟨_, (run_call2 rfl enters_rcp).trans (by rw [show env f (.tmp 47) = ptv p from (H.t 2 47 rfl (hdep ⟨2, .data⟩ (by simp) rfl)), show env f (.tmp 51) = seg s from (H.t 6 51 rfl (hdep ⟨6, .data⟩ (by simp) rfl))]), rcp_any p s wx hinc⟩,
    ma_app rfl rfl rfl rfl rfl rfl rfl rfl hrl hlen hBW (by simp) ⟨⟨7, .data⟩, by simp, rfl, rfl⟩ (fun L hq0 hdep q hq e0 => by
      simp only [List.mem_cons, List.not_mem_nil, or_false] at hq
      rcases hq with rfl | rfl | rfl | rfl | rfl | rfl | rfl
      all_goals first
        | exact absurd e0 (by decide)
        | exact hdep ⟨1, .data⟩ (by simp) rfl
        | exact hdep ⟨7, .data⟩ (by simp) rfl
        | exact hq0 (7, 2) (by simp) (hdep ⟨7, .data⟩ (by simp) rfl)
        | exact hq0 (7, 6) (by simp) (hdep ⟨7, .data⟩ (by simp) rfl)
) rfl hown rfl fun L f wx hdep H => (H.t 1 46 rfl (hdep ⟨1, .data⟩ (by simp) rfl)),
    ma_val rfl rfl rfl rfl rfl fun L f wx hL hdep H => run_fld_line0 (H.x (6, .pointer (some ⟨b6, 0, none⟩)) (by simp)),
    ma_store rfl rfl rfl rfl ⟨⟨8, .data⟩, by simp, rfl, rfl⟩ (fun L hdep q hq e0 => by
      simp only [List.mem_cons, List.not_mem_nil, or_false] at hq
      rcases hq with rfl | rfl | rfl | rfl | rfl | rfl | rfl
      all_goals first
        | exact absurd e0 (by decide)
        | exact hdep ⟨8, .data⟩ (by simp) rfl
) rfl rfl (fun L f wx hdep H => (H.t 9 54 rfl (hdep ⟨9, .data⟩ (by simp) rfl))) fun ρ wx v hR hx hy => by
      obtain ⟨hu, hfz⟩ := app_cell1 hR HI.out.c6 hnb
      obtain ⟨g9, c9, hv9, -, -⟩ := hR.f
      rw [hv9] at hy ⊢
      exact run_storeSl hx hy hu hfz, trivial⟩
            intro L f act w5 hall H ha
            refine hKn _ _ ?_
            obtain ⟨wa, hR, hwa⟩ := H.m.s (hall 10 (by decide))
            have k0 : f 0 = .slice (some a) n c := H.x (0, .slice (some a) n c) (by simp)
            have k1 : f 1 = gD 1 := H.x (1, gD 1) (by simp)
            have k2 : f 2 = gD 2 := H.x (2, gD 2) (by simp)
            have k3 : f 3 = u3 := H.x (3, u3) (by simp)
            have k4 : f 4 = .int .i64 ((i : Int)) := H.x (4, .int .i64 ((i : Int))) (by simp)
            have k5 : f 5 = .pointer (some ⟨b5, 0, none⟩) := H.x (5, .pointer (some ⟨b5, 0, none⟩)) (by simp)
            have k6 : f 6 = .pointer (some ⟨b6, 0, none⟩) := H.x (6, .pointer (some ⟨b6, 0, none⟩)) (by simp)
            have k7 : f 7 = .int .i64 ((k : Int)) := H.x (7, .int .i64 ((k : Int))) (by simp)
            have k8 : f 8 = gE 8 := H.x (8, gE 8) (by simp)
            have k9 : f 9 = gE 9 := H.x (9, gE 9) (by simp)
            have k10 : f 10 = gE 10 := H.x (10, gE 10) (by simp)
            have k11 : f 11 = gE 11 := H.x (11, gE 11) (by simp)
            have k12 : f 12 = gE 12 := H.x (12, gE 12) (by simp)
            have k13 : f 13 = gE 13 := H.x (13, gE 13) (by simp)
            have k14 : f 14 = gE 14 := H.x (14, gE 14) (by simp)
            have k15 : f 15 = gE 15 := H.x (15, gE 15) (by simp)
            have k16 : f 16 = gE 16 := H.x (16, gE 16) (by simp)
            have k17 : f 17 = gE 17 := H.x (17, gE 17) (by simp)
            have k18 : f 18 = gE 18 := H.x (18, gE 18) (by simp)
            have k19 : f 19 = gE 19 := H.x (19, gE 19) (by simp)
            have k20 : f 20 = gE 20 := H.x (20, gE 20) (by simp)
            have k21 : f 21 = gE 21 := H.x (21, gE 21) (by simp)
            have k22 : f 22 = gE 22 := H.x (22, gE 22) (by simp)
            have k23 : f 23 = gE 23 := H.x (23, gE 23) (by simp)
            have k24 : f 24 = gE 24 := H.x (24, gE 24) (by simp)
            have k25 : f 25 = gE 25 := H.x (25, gE 25) (by simp)
            have k26 : f 26 = gE 26 := H.x (26, gE 26) (by simp)
            have k27 : f 27 = gE 27 := H.x (27, gE 27) (by simp)
            have k28 : f 28 = gE 28 := H.x (28, gE 28) (by simp)
            have k29 : f 29 = .int .i64 ((i : Int)) := H.x (29, .int .i64 ((i : Int))) (by simp)
            have k30 : f 30 = .int .i64 ((i : Int) + 1) := H.x (30, .int .i64 ((i : Int) + 1)) (by simp)
            have k66 : f 66 = gE 66 := H.x (66, gE 66) (by simp)
            have k67 : f 67 = gE 67 := H.x (67, gE 67) (by simp)
            have k68 : f 68 = gE 68 := H.x (68, gE 68) (by simp)
            have k69 : f 69 = gE 69 := H.x (69, gE 69) (by simp)
            have k70 : f 70 = gD 70 := H.x (70, gD 70) (by simp)
            have hw := ha.whole
            rw [show ((List.range 71).map f).toArray = #[f 0, f 1, f 2, f 3, f 4, f 5, f 6, f 7, f 8, f 9, f 10, f 11, f 12, f 13, f 14, f 15, f 16, f 17, f 18, f 19, f 20, f 21, f 22, f 23, f 24, f 25, f 26, f 27, f 28, f 29, f 30, f 31, f 32, f 33, f 34, f 35, f 36, f 37, f 38, f 39, f 40, f 41, f 42, f 43, f 44, f 45, f 46, f 47, f 48, f 49, f 50, f 51, f 52, f 53, f 54, f 55, f 56, f 57, f 58, f 59, f 60, f 61, f 62, f 63, f 64, f 65, f 66, f 67, f 68, f 69, f 70] from rfl] at hw
            rw [k0, k1, k2, k3, k4, k5, k6, k7, k8, k9, k10, k11, k12, k13, k14, k15, k16, k17, k18, k19, k20, k21, k22, k23, k24, k25, k26, k27, k28, k29, k30, k66, k67, k68, k69, k70] at hw
            subst hw
            clear ha hall k0 k1 k2 k3 k4 k5 k6 k7 k8 k9 k10 k11 k12 k13 k14 k15 k16 k17 k18 k19 k20 k21 k22 k23 k24 k25 k26 k27 k28 k29 k30 k66 k67 k68 k69 k70 hKn
            generalize f 53 = v6 at hR hwa
            have hmo := HI.out.more hBW hR
            rw [← hwa] at hmo
            have HI5 := hid hmo.1
            have HA5 := hid (HA.out.below hmo.2 (by rw [add_block]; exact HALB.out))
            have HB5 := hid (HBK.out.trans hmo.2)
            have HS5 := hid (show B ≤ w5.heap.size from Nat.le_trans hBW hmo.2.size)
            have HLP := hid (show lastP ⟨l.ps ++ replP p s, l.cl⟩ = ⟨s.x, s.y⟩ from lastP_of (by rw [List.getLast?_append, (replP_last hinc).1]; rfl))
            clear hmo hR hwa H LC L5 LSg hown hrl hlen hnb hBW HI HA HAL HBK HBS hvv hinc HFL HLO HO1
            go_upto_region 13 with fail
            rename ∀ (a : Act) (w : World), Code.wp _ _ _ a w → (_ : Act → World → Prop) a w => hKn
            refine wp_region_fan 11 1000 (Over w5) (by kernel_rfl) (by kernel_rfl) (Over.start w5) ?_
            simp only [List.take_succ_cons, List.take_zero, List.drop_succ_cons, List.drop_zero]
            have LSg := fun b w1 (h : Over w5 b w1) => HA5.out.below (B := w5.heap.size) h (by rw [add_block]; exact Nat.lt_of_lt_of_le HALB.out HS5.out)
            refine WalksE.sound _ _ _ _ ?_ (((((((((((((((((((((((((((((((((((((Is.start _ (n := 71) rfl).pin 0 (v := .slice (some a) n c) rfl).pin 1 (v := gD 1) rfl).pin 2 (v := gD 2) rfl).pin 3 (v := u3) rfl).pin 4 (v := .int .i64 ((i : Int))) rfl).pin 5 (v := .pointer (some ⟨b5, 0, none⟩)) rfl).pin 6 (v := .pointer (some ⟨b6, 0, none⟩)) rfl).pin 7 (v := .int .i64 ((k : Int))) rfl).pin 8 (v := gE 8) rfl).pin 9 (v := gE 9) rfl).pin 10 (v := gE 10) rfl).pin 11 (v := gE 11) rfl).pin 12 (v := gE 12) rfl).pin 13 (v := gE 13) rfl).pin 14 (v := gE 14) rfl).pin 15 (v := gE 15) rfl).pin 16 (v := gE 16) rfl).pin 17 (v := gE 17) rfl).pin 18 (v := gE 18) rfl).pin 19 (v := gE 19) rfl).pin 20 (v := gE 20) rfl).pin 21 (v := gE 21) rfl).pin 22 (v := gE 22) rfl).pin 23 (v := gE 23) rfl).pin 24 (v := gE 24) rfl).pin 25 (v := gE 25) rfl).pin 26 (v := gE 26) rfl).pin 27 (v := gE 27) rfl).pin 28 (v := gE 28) rfl).pin 29 (v := .int .i64 ((i : Int))) rfl).pin 30 (v := .int .i64 ((i : Int) + 1)) rfl).pin 66 (v := gE 66) rfl).pin 67 (v := gE 67) rfl).pin 68 (v := gE 68) rfl).pin 69 (v := gE 69) rfl).pin 70 (v := gD 70) rfl)
            generalize (fun i => Array.getD _ i undef) = gfn
            refine walks_with fun KQ hKQ => ?_
            (refine walks_one fun K hK => ?_); refine st_pure rfl rfl (fun _ => rfl) ?_; refine hK _ ?_; clear hK K
            (refine walks_one fun K hK => ?_); refine st_pure rfl rfl (fun _ => rfl) ?_; refine hK _ ?_; clear hK K
            (refine walks_one fun K hK => ?_); refine st_pure (v := .pointer (some (a.add (k * 6)))) rfl rfl (fun _ => run_idx rfl rfl hkn) ?_; refine hK _ ?_; clear hK K
            (refine walks_one fun K hK => ?_); refine st_pure rfl rfl (fun _ => run_fldA1 rfl) ?_; refine hK _ ?_; clear hK K
            (refine walks_one fun K hK => ?_); refine st_loadFld (fun _ _ h => (LSg _ _ h).c1) rfl rfl rfl ?_; refine hK _ ?_; clear hK K
            (refine walks_one fun K hK => ?_); refine st_pure rfl rfl (fun _ => rfl) ?_; refine hK _ ?_; clear hK K
            (refine walks_one fun K hK => ?_); refine st_pure rfl rfl (fun _ => rfl) ?_; refine hK _ ?_; clear hK K
            (refine walks_one fun K hK => ?_); refine st_pure (v := .pointer (some (a.add (k * 6)))) rfl rfl (fun _ => run_idx rfl rfl hkn) ?_; refine hK _ ?_; clear hK K
            (refine walks_one fun K hK => ?_); refine st_pure rfl rfl (fun _ => run_fldA2 rfl) ?_; refine hK _ ?_; clear hK K
            (refine walks_one fun K hK => ?_); refine st_loadFld (fun _ _ h => (LSg _ _ h).c2) rfl rfl rfl ?_; refine hK _ ?_; clear hK K
            (refine walks_one fun K hK => ?_); refine st_pure rfl rfl (fun _ => run_buildPt rfl rfl) ?_; refine hK _ ?_; clear hK K
            refine walks_end fun a9 ha9 => hKQ _ fun w1 hC => ?_
            have e5 : a9.eval (.tmp 5) = .pointer (some ⟨b5, 0, none⟩) := by rw [ha9.eval]; rfl
            have e65 : a9.eval (.tmp 65) = pt s.x s.y := by rw [ha9.eval]; rfl
            refine tail2s e5 e65 (HI5.out.next hC).c5 ?_
            refine hKn _ _ ?_
            obtain ⟨g9, hg9, k0, k1, k2, k3, k4, k5, k6, k7, k8, k9, k10, k11, k12, k13, k14, k15, k16, k17, k18, k19, k20, k21, k22, k23, k24, k25, k26, k27, k28, k29, k30, k66, k67, k68, k69, k70⟩ : ∃ g9, Is a9 71 g9 ∧ g9 0 = .slice (some a) n c ∧ g9 1 = gD 1 ∧ g9 2 = gD 2 ∧ g9 3 = u3 ∧ g9 4 = .int .i64 ((i : Int)) ∧ g9 5 = .pointer (some ⟨b5, 0, none⟩) ∧ g9 6 = .pointer (some ⟨b6, 0, none⟩) ∧ g9 7 = .int .i64 ((k : Int)) ∧ g9 8 = gE 8 ∧ g9 9 = gE 9 ∧ g9 10 = gE 10 ∧ g9 11 = gE 11 ∧ g9 12 = gE 12 ∧ g9 13 = gE 13 ∧ g9 14 = gE 14 ∧ g9 15 = gE 15 ∧ g9 16 = gE 16 ∧ g9 17 = gE 17 ∧ g9 18 = gE 18 ∧ g9 19 = gE 19 ∧ g9 20 = gE 20 ∧ g9 21 = gE 21 ∧ g9 22 = gE 22 ∧ g9 23 = gE 23 ∧ g9 24 = gE 24 ∧ g9 25 = gE 25 ∧ g9 26 = gE 26 ∧ g9 27 = gE 27 ∧ g9 28 = gE 28 ∧ g9 29 = .int .i64 ((i : Int)) ∧ g9 30 = .int .i64 ((i : Int) + 1) ∧ g9 66 = gE 66 ∧ g9 67 = gE 67 ∧ g9 68 = gE 68 ∧ g9 69 = gE 69 ∧ g9 70 = gD 70 := ⟨_, ha9, rfl, rfl, rfl, rfl, rfl, rfl, rfl, rfl, rfl, rfl, rfl, rfl, rfl, rfl, rfl, rfl, rfl, rfl, rfl, rfl, rfl, rfl, rfl, rfl, rfl, rfl, rfl, rfl, rfl, rfl, rfl, rfl, rfl, rfl, rfl, rfl⟩
            have hw := hg9.whole
            rw [show ((List.range 71).map g9).toArray = #[g9 0, g9 1, g9 2, g9 3, g9 4, g9 5, g9 6, g9 7, g9 8, g9 9, g9 10, g9 11, g9 12, g9 13, g9 14, g9 15, g9 16, g9 17, g9 18, g9 19, g9 20, g9 21, g9 22, g9 23, g9 24, g9 25, g9 26, g9 27, g9 28, g9 29, g9 30, g9 31, g9 32, g9 33, g9 34, g9 35, g9 36, g9 37, g9 38, g9 39, g9 40, g9 41, g9 42, g9 43, g9 44, g9 45, g9 46, g9 47, g9 48, g9 49, g9 50, g9 51, g9 52, g9 53, g9 54, g9 55, g9 56, g9 57, g9 58, g9 59, g9 60, g9 61, g9 62, g9 63, g9 64, g9 65, g9 66, g9 67, g9 68, g9 69, g9 70] from rfl] at hw
            rw [k0, k1, k2, k3, k4, k5, k6, k7, k8, k9, k10, k11, k12, k13, k14, k15, k16, k17, k18, k19, k20, k21, k22, k23, k24, k25, k26, k27, k28, k29, k30, k66, k67, k68, k69, k70] at hw
            subst hw
            clear hg9 k0 k1 k2 k3 k4 k5 k6 k7 k8 k9 k10 k11 k12 k13 k14 k15 k16 k17 k18 k19 k20 k21 k22 k23 k24 k25 k26 k27 k28 k29 k30 k66 k67 k68 k69 k70
            have HI7 := hid (show ISt ((w1.setCell ⟨b5, 0, none⟩ (.int .i64 s.x)).setCell ⟨b5, 1, none⟩ (.int .i64 s.y)) B b5 b6 u3 es v6 ⟨l.ps ++ replP p s, l.cl⟩ (lastP ⟨l.ps ++ replP p s, l.cl⟩) by rw [HLP.out]; exact (HI5.out.next hC).move ⟨s.x, s.y⟩)
            have HB7 := hid (below_set2 (b := b5) (p := .int .i64 s.x) (q := .int .i64 s.y) (HB5.out.trans (hC.mono HS5.out)) HI5.out.g.1)
            have HS7 := hid (show B ≤ ((w1.setCell ⟨b5, 0, none⟩ (.int .i64 s.x)).setCell ⟨b5, 1, none⟩ (.int .i64 s.y)).heap.size by have := Nat.le_trans HS5.out (Below.size hC); simpa using this)
            generalize (w1.setCell ⟨b5, 0, none⟩ (.int .i64 s.x)).setCell ⟨b5, 1, none⟩ (.int .i64 s.y) = w7 at HI7 HB7 HS7 ⊢
            clear ha9 hC e5 e65 hKQ KQ hKn LSg HI5 HA5 HB5 HS5 HLP
            go_wp2_with fail
            go_roundw
            case rel => exact ⟨k + 1, v6, ⟨l.ps ++ replP p s, l.cl⟩, by omega, by omega, by go_num, HI7, HFL2, HLN2, HB7, HS7⟩
            case measure => simp [intOf]; omega
        · have hke2 : k = ends ss i := by omega
          have HFE := hid (show flatL (ss.take (ends ss i)) = es.map (·.2) ++ [l] by rw [← hke2]; exact HFL.out)
          obtain ⟨gv, cv, hvv, -, hgv⟩ := own_lt HI.out.vv.1 HI.out.vv.2
          subst hvv
          clear HFL HLO hk
          go_upto_region 14 with fail
          rename ∀ (a : Act) (w : World), Code.wp _ (Code.region 4 _ _) _ a w → (_ : Act → World → Prop) a w => hKn
          refine wp_region_lit ?_
          refine sq_start (n := 71) rfl fun a0 hs0 => ?_
          have ha0 := (((((((hs0.pin 0 (v := .slice (some a) n c) rfl).pin 1 (v := gD 1) rfl).pin 2 (v := gD 2) rfl).pin 3 (v := u3) rfl).pin 4 (v := .int .i64 ((i : Int))) rfl).pin 6 (v := .pointer (some ⟨b6, 0, none⟩)) rfl).pin 70 (v := gD 70) rfl)
          clear hs0
          generalize (fun i => Array.getD _ i undef) = g0 at ha0
          refine sq_val ha0 rfl (rfl) fun a1 ha1 => ?_
          refine sq_val ha1 rfl (run_loadLn rfl HI.out.c6) fun a2 ha2 => ?_
          refine sq_val ha2 rfl (run_litLn rfl) fun a3 ha3 => ?_
          obtain ⟨v4, w4, h41, h42, h43, -⟩ := append_line (ty := 36) (l := l) HBS.out HI.out.o HI.out.vv.1 HI.out.vv.2 (fun e he => (HI.out.d e he).1) (by have := HLE.out; omega)
          refine sq_val (v := v4) ha3 rfl (F2.run_append rfl rfl h41) fun a4 ha4 => ?_
          refine sq_val (v := v4) ha4 rfl rfl fun a5 ha5 => ?_
          refine wpList_nil ?_
          refine hKn _ _ ?_
          obtain ⟨g9, hg9, k0, k1, k2, k3, k4, k70⟩ : ∃ g9, Is a5 71 g9 ∧ g9 0 = .slice (some a) n c ∧ g9 1 = gD 1 ∧ g9 2 = gD 2 ∧ g9 3 = v4 ∧ g9 4 = .int .i64 ((i : Int)) ∧ g9 70 = gD 70 := ⟨_, ha5, rfl, rfl, rfl, rfl, rfl, rfl⟩
          have hw := hg9.whole
          rw [show ((List.range 71).map g9).toArray = #[g9 0, g9 1, g9 2, g9 3, g9 4, g9 5, g9 6, g9 7, g9 8, g9 9, g9 10, g9 11, g9 12, g9 13, g9 14, g9 15, g9 16, g9 17, g9 18, g9 19, g9 20, g9 21, g9 22, g9 23, g9 24, g9 25, g9 26, g9 27, g9 28, g9 29, g9 30, g9 31, g9 32, g9 33, g9 34, g9 35, g9 36, g9 37, g9 38, g9 39, g9 40, g9 41, g9 42, g9 43, g9 44, g9 45, g9 46, g9 47, g9 48, g9 49, g9 50, g9 51, g9 52, g9 53, g9 54, g9 55, g9 56, g9 57, g9 58, g9 59, g9 60, g9 61, g9 62, g9 63, g9 64, g9 65, g9 66, g9 67, g9 68, g9 69, g9 70] from rfl] at hw
          rw [k0, k1, k2, k3, k4, k70] at hw
          subst hw
          clear hg9 k0 k1 k2 k3 k4 k70
          clear ha0 ha1 ha2 ha3 ha4 ha5 hKn
          have HO4 := hid h42
          have HE4 := hid (show (es ++ [(Value.slice (some ⟨gv, 0, none⟩) l.ps.length cv, l)]).map (·.2) = flatL (ss.take (ends ss i)) by rw [List.map_append, HFE.out]; rfl)
          have hgt := ends_gt ss i
          have HL4 := hid (show (es ++ [(Value.slice (some ⟨gv, 0, none⟩) l.ps.length cv, l)]).length ≤ ends ss i by have := HLE.out; simp; omega)
          have HB4 := hid (HBK.out.trans h43)
          have HS4 := hid (show B ≤ w4.heap.size from Nat.le_trans HBS.out h43.size)
          have HSW4 := hid (show Segs w4 (some a) ss from fun hne => by
            obtain ⟨a', e', hl', hr'⟩ := HS.out hne
            have : a' = a := by injection e' with e'; exact e'.symm
            subst this
            have hb := HB4.out
            rw [HBE.out] at hb
            exact ⟨_, rfl, Nat.lt_of_lt_of_le hl' hb.size, hr'.below hb hl'⟩)
          have HMN := hid (fun h : ends ss i < ss.length => ends_next h)
          clear h41 h42 h43 HI HBK HBS HSW
          go_wp2_with fail
          (with_reducible refine (rends_any (some a) ss n c i w4 HN.out HSW4.out (by rw [← HN.out]; exact hn1000) hil).mono ?_); rintro e w9 ⟨rfl, rfl⟩
          go_wp2_with fail
          go_roundw
          case rel => exact ⟨ends ss i, es ++ [(.slice (some ⟨gv, 0, none⟩) l.ps.length cv, l)], hele, rfl, HMN, HO4, HE4, HL4, HB4, HS4⟩
          case measure => simp [intOf]; omega
    · have hkn : i = n := by omega
      subst hkn
      clear hlt
      go_wp2_with fail
      go_ret
      refine ⟨_, es, rfl, by rw [← HBE.out]; exact HO.out, ?_, by rw [← HBE.out]; exact HBK.out⟩
      rw [HE.out, List.take_of_length_le (by rw [HN.out]; exact Nat.le_refl _)]

end Go.Proofs.Ytcdedefhofkbhaa
