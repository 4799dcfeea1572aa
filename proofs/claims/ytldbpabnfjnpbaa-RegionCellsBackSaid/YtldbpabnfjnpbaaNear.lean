/- Regions that the laws make: near, cut; valid ones whatever came in. -/
import Derived.Test.YtldbpabnfjnpbaaOf
import Derived.Test.YtldbpabnfjnpbaaRgn
namespace Go.Proofs.Ytldbpabnfjnpbaa
open Go Go.RowKit
set_option linter.unusedVariables false

def cutV (x lo hi : Int) : Int := lo + x.tmod (hi - lo + 1) % (hi - lo + 1)
theorem cutV_in (x lo hi : Int) (h : lo ≤ hi) : lo ≤ cutV x lo hi ∧ cutV x lo hi ≤ hi := by
  have t3 := Int.emod_nonneg (x.tmod (hi - lo + 1)) (show hi - lo + 1 ≠ 0 by omega)
  have t4 := Int.emod_lt_of_pos (x.tmod (hi - lo + 1)) (show 0 < hi - lo + 1 by omega)
  unfold cutV; omega
theorem cut_val (x lo hi : Int) (w : World) (h : lo ≤ hi) (hl : -1000000 ≤ lo) (hh : hi ≤ 1000000) :
    Calls Try.prog 32 #[.int .i64 x, .int .i64 lo, .int .i64 hi] w fun e w' => e = .returned (.int .i64 (cutV x lo hi)) ∧ w = w' := by
  have t1 := Int.lt_tmod_of_pos x (show 0 < hi - lo + 1 by omega)
  have t2 := Int.tmod_lt_of_pos x (show 0 < hi - lo + 1 by omega)
  have t3 := Int.emod_nonneg (x.tmod (hi - lo + 1)) (show hi - lo + 1 ≠ 0 by omega)
  have t4 := Int.emod_lt_of_pos (x.tmod (hi - lo + 1)) (show 0 < hi - lo + 1 by omega)
  unfold cutV
  go_enter Try.func32, Try.ntmps32
  go_wp2
  go_ret
  exact ⟨rfl, rfl⟩
theorem cut_quiet {x lo hi : Int} {w : World} {k : Nat} (h : lo ≤ hi) (hl : -1000000 ≤ lo) (hh : hi ≤ 1000000) :
    Calls Try.prog 32 #[.int .i64 x, .int .i64 lo, .int .i64 hi] (w.drewN k) fun e w'' => e = .returned (.int .i64 (cutV x lo hi)) ∧ ∃ m, w'' = w.drewN m :=
  Calls.quiet_of_same ((cut_val x lo hi _ h hl hh).mono fun e w' h => ⟨h.1, h.2.symm⟩)
theorem wp_frameR {P : Program} {c : Code} {Q : Exit → Act → World → Prop} {tmps : Array Value} {w : World} {n : Nat} (hn : tmps.size = n) (h : ∀ g : Nat → Value, (∀ i, i < n → g i = tmps.getD i undef) → c.wp P Q ⟨((List.range n).map g).toArray, []⟩ w) : c.wp P Q ⟨tmps, []⟩ w := by
  rw [(Is.start _ hn).whole]
  exact h _ fun i hi => rfl
theorem run_litPt {ρ : Operand → Value} {dst : Option Tmp} {ty : TypeId} {pos : String} {af : Array Edge} {x : Operand} {w : World} {gd : Option (Nat × Bool)} {s : P2} (hx : ρ x = ptv s) :
    (execOp ρ { dst := dst, op := .buildSlice 26 1 #[(0, x)], type := ty, pos := pos, after := af, guard := gd }).run Try.prog w = .ok (.value (.slice (some ⟨w.heap.size, 0, none⟩) 1 1)) (w.alloc (.cells (pcel s) 31)) := by
  go_simp
/-- Cells within a square. -/
def InSq (m : Int) (ps : List P2) : Prop := ∀ p ∈ ps, (-m ≤ p.x ∧ p.x ≤ m) ∧ (-m ≤ p.y ∧ p.y ≤ m)
/-- What near's loops keep: i runs are done, and k cells of the next one. -/
def NL (m : Int) (w : World) (i k : Nat) (v : Value) (wr : World) : Prop := ∃ ps : List P2, OwnP wr w.heap.size v ps ∧ Below w.heap.size w wr ∧ ps.length ≤ 12 * i + k ∧ InSq m ps
def NR (m : Int) (w : World) (n : Nat) (s6 s5 : Value) (wr : World) : Prop := ∃ (i : Nat) (v : Value), s5 = v ∧ i ≤ n ∧ i ≤ 30 ∧ s6 = .int .i64 i ∧ Hid (NL m w i 0 v wr)
def NI (m : Int) (w : World) (i Z : Nat) (s46 s5 : Value) (wr : World) : Prop := ∃ (k : Nat) (v : Value), s5 = v ∧ k ≤ Z ∧ s46 = .int .i64 k ∧ Hid (NL m w i k v wr)
/-- A valid region within a square. -/
def GivesNear (m : Int) (w : World) (e : Ending) (w' : World) : Prop := ∃ v rs, e = .returned v ∧ OwnR w' w.heap.size v rs ∧ Below w.heap.size w w' ∧ chk rs = 0 ∧ rs.length ≤ 360 ∧ ∃ ps, Made ps rs ∧ InSq m ps

set_option maxHeartbeats 8000000 in
set_option maxRecDepth 100000 in
theorem near_any (A : Option Addr) (ss : List Rn) (n c : Nat) (m : Int) (w : World) (hn : n = ss.length) (hnm : n ≤ maxLen) (hs : Runs w A ss) (hm1 : 1 ≤ m) (hm2 : m ≤ 4000) :
    Calls Try.prog 31 #[.slice A n c, .int .i64 m] w (GivesNear m w) := by
  have HS := hid hs
  have HN := hid hn
  unfold maxLen at hnm
  clear hs hn
  go_enter Try.func31, Try.ntmps31
  go_wp2_with fail
  go_loopw [6, 5] (fun s6 s5 wr => NR m w n s6 s5 wr) (fun s6 _ _ => n - (intOf s6).toNat)
  case atStart => exact ⟨0, _, rfl, Nat.zero_le _, Nat.zero_le _, rfl, hid ⟨[], OwnP.nil _ _, Below.refl _ _, Nat.zero_le _, fun p hp => by cases hp⟩⟩
  case round =>
    obtain ⟨i, v, hv, hin, hi30, rfl, HL⟩ := hrel
    have hv' := hv.symm
    clear hv
    subst hv'
    by_cases hlt : i < n ∧ i < 30
    · obtain ⟨hlt, hlt30⟩ := hlt
      have hil : i < ss.length := by rw [← HN.out]; exact hlt
      have HBw : Hid (Below w.heap.size w wr) := hid (by obtain ⟨_, _, h, _⟩ := HL.out; exact h)
      obtain ⟨a, rfl, hal, hsa⟩ := (HS.out.next HBw.out).at_ hil
      generalize ss[i] = r at hsa
      have HSA := hid hsa
      obtain ⟨c0, c1, c2⟩ := hsa
      have e1 : IntKind.i64.wrap (-m) = -m := IntWalk.i64_in _ (by omega)
      go_upto_region 5 with fail
      go_quiet (first
        | (go_at_call_of 32 (Value.int IntKind.i64 r.a); exact cut_quiet (by omega) (by omega) (by omega))
        | (go_at_call_of 32 (Value.int IntKind.i64 r.y); exact cut_quiet (by omega) (by omega) (by omega)))
      clear c0 c1 c2 e1
      obtain ⟨hx1, hx2⟩ := cutV_in r.a (-m) m (by omega)
      obtain ⟨hy1, hy2⟩ := cutV_in r.y (-m) m (by omega)
      generalize cutV r.a (-m) m = x at hx1 hx2 ⊢
      generalize cutV r.y (-m) m = y at hy1 hy2 ⊢
      have HB3 := hid (below_drewN (Below.refl wr.heap.size wr) nq)
      generalize World.drewN wr _ = W3 at HB3 ⊢
      have HL3 : Hid (NL m w i 0 v W3) := hid (by
        obtain ⟨ps, h1, h2, h3, h4⟩ := HL.out
        exact ⟨ps, own_next h1 HB3.out, below_next h2 HB3.out, h3, h4⟩)
      have HSA3 := hid (HSA.out.below HB3.out (by rw [add_block]; exact hal))
      obtain ⟨c0, c1, c2⟩ := HSA3.out
      obtain ⟨hz1, hz2⟩ := cutV_in r.b 1 12 (by omega)
      obtain ⟨Z, hZ⟩ : ∃ Z : Nat, cutV r.b 1 12 = (Z : Int) := ⟨(cutV r.b 1 12).toNat, by omega⟩
      have HZ := hid hZ
      have hZ12 : Z ≤ 12 := by omega
      clear hz1 hz2 hZ
      go_wp2_with (go_at_call 32; (with_reducible refine (cut_val _ _ _ _ (by omega) (by omega) (by omega)).mono ?_); rintro e w' ⟨rfl, rfl⟩; rw [HZ.out])
      refine wp_frameR (n := 66) rfl fun gA hgA => ?_
      have q0 : gA 0 = .slice (some a) n c := hgA 0 (by decide)
      have q1 : gA 1 = .int .i64 m := hgA 1 (by decide)
      have q4 : gA 4 = .slice none 0 0 := hgA 4 (by decide)
      have q5 : gA 5 = v := hgA 5 (by decide)
      have q6 : gA 6 = .int .i64 i := hgA 6 (by decide)
      have q7 : gA 7 = .int .i64 x := hgA 7 (by decide)
      have q8 : gA 8 = .int .i64 y := hgA 8 (by decide)
      have q45 : gA 45 = .int .i64 (Z : Int) := hgA 45 (by decide)
      have q46 : gA 46 = .int .i64 0 := hgA 46 (by decide)
      have q2 : gA 2 = undef := hgA 2 (by decide)
      have q3 : gA 3 = undef := hgA 3 (by decide)
      have q10 : gA 10 = undef := hgA 10 (by decide)
      have q11 : gA 11 = undef := hgA 11 (by decide)
      have q60 : gA 60 = undef := hgA 60 (by decide)
      have q61 : gA 61 = undef := hgA 61 (by decide)
      have q62 : gA 62 = undef := hgA 62 (by decide)
      have q63 : gA 63 = undef := hgA 63 (by decide)
      have q64 : gA 64 = undef := hgA 64 (by decide)
      have q65 : gA 65 = undef := hgA 65 (by decide)
      rw [show ((List.range 66).map gA).toArray = #[gA 0, gA 1, gA 2, gA 3, gA 4, gA 5, gA 6, gA 7, gA 8, gA 9, gA 10, gA 11, gA 12, gA 13, gA 14, gA 15, gA 16, gA 17, gA 18, gA 19, gA 20, gA 21, gA 22, gA 23, gA 24, gA 25, gA 26, gA 27, gA 28, gA 29, gA 30, gA 31, gA 32, gA 33, gA 34, gA 35, gA 36, gA 37, gA 38, gA 39, gA 40, gA 41, gA 42, gA 43, gA 44, gA 45, gA 46, gA 47, gA 48, gA 49, gA 50, gA 51, gA 52, gA 53, gA 54, gA 55, gA 56, gA 57, gA 58, gA 59, gA 60, gA 61, gA 62, gA 63, gA 64, gA 65] from rfl]
      dsimp only
      rw [q0, q1, q4, q5, q6, q7, q8, q45, q46, q2, q3, q10, q11, q60, q61, q62, q63, q64, q65]
      clear hgA q0 q1 q4 q5 q6 q7 q8 q45 q46 q2 q3 q10 q11 q60 q61 q62 q63 q64 q65
      go_loopw [46, 5] (fun s46 s5 wr => NI m w i Z s46 s5 wr) (fun s46 _ _ => Z - (intOf s46).toNat)
      case atStart => exact ⟨0, _, rfl, Nat.zero_le _, rfl, HL3⟩
      case round =>
        obtain ⟨w7, rfl⟩ : ∃ w7, w7 = wr := ⟨_, rfl⟩
        obtain ⟨k, v, hv, hkZ, rfl, HLk⟩ := hrel
        have hv' := hv.symm
        clear hv
        subst hv'
        by_cases hltk : k < Z
        · obtain ⟨qs, hq⟩ := HLk.out
          have HL2 := hid (show OwnP w7 w.heap.size v qs ∧ Below w.heap.size w w7 ∧ InSq m qs from ⟨hq.1, hq.2.1, hq.2.2.2⟩)
          have HQl := hid hq.2.2.1
          have hqs : qs.length ≤ 5000000000 := by have := hq.2.2.1; omega
          clear hq
          go_upto_region 9 with fail
          rename_i Kn hKn
          refine wp_region_lit ?_
          refine sq_start (n := 66) rfl fun a0 hs0 => ?_
          have ha0 := (((((((((((((((((((((((((((((((((((((((((((((((((((((hs0.pin 0 (v := .slice (some a) n c) rfl).pin 1 (v := .int .i64 m) rfl).pin 4 (v := .slice none 0 0) rfl).pin 5 (v := v) rfl).pin 6 (v := .int .i64 i) rfl).pin 7 (v := .int .i64 x) rfl).pin 8 (v := .int .i64 y) rfl).pin 9 (v := .int .i64 k) rfl).pin 45 (v := .int .i64 Z) rfl).pin 46 (v := .int .i64 k) rfl).pin 12 (v := gA 12) rfl).pin 13 (v := gA 13) rfl).pin 14 (v := gA 14) rfl).pin 15 (v := gA 15) rfl).pin 16 (v := gA 16) rfl).pin 17 (v := gA 17) rfl).pin 18 (v := gA 18) rfl).pin 19 (v := gA 19) rfl).pin 20 (v := gA 20) rfl).pin 21 (v := gA 21) rfl).pin 22 (v := gA 22) rfl).pin 23 (v := gA 23) rfl).pin 24 (v := gA 24) rfl).pin 25 (v := gA 25) rfl).pin 26 (v := gA 26) rfl).pin 27 (v := gA 27) rfl).pin 28 (v := gA 28) rfl).pin 29 (v := gA 29) rfl).pin 30 (v := gA 30) rfl).pin 31 (v := gA 31) rfl).pin 32 (v := gA 32) rfl).pin 33 (v := gA 33) rfl).pin 34 (v := gA 34) rfl).pin 35 (v := gA 35) rfl).pin 36 (v := gA 36) rfl).pin 37 (v := gA 37) rfl).pin 38 (v := gA 38) rfl).pin 39 (v := gA 39) rfl).pin 40 (v := gA 40) rfl).pin 41 (v := gA 41) rfl).pin 42 (v := gA 42) rfl).pin 43 (v := gA 43) rfl).pin 44 (v := gA 44) rfl).pin 2 (v := undef) rfl).pin 3 (v := undef) rfl).pin 10 (v := undef) rfl).pin 11 (v := undef) rfl).pin 60 (v := undef) rfl).pin 61 (v := undef) rfl).pin 62 (v := undef) rfl).pin 63 (v := undef) rfl).pin 64 (v := undef) rfl).pin 65 (v := undef) rfl)
          clear hs0
          generalize (fun i => Array.getD _ i undef) = g0 at ha0
          refine sq_val (v := v) ha0 rfl (rfl) fun a1 ha1 => ?_
          refine sq_val (v := .int .i64 m) ha1 rfl (rfl) fun a2 ha2 => ?_
          refine sq_val (v := .int .i64 x) ha2 rfl (rfl) fun a3 ha3 => ?_
          refine sq_val (v := .int .i64 k) ha3 rfl (rfl) fun a4 ha4 => ?_
          refine sq_val (v := .int .i64 (x + k)) ha4 rfl (run_add rfl rfl (by unfold Rg; omega)) fun a5 ha5 => ?_
          refine sq_val (v := .int .i64 (min m (x + k))) ha5 rfl (run_min2 rfl rfl) fun a6 ha6 => ?_
          refine sq_val (v := .int .i64 y) ha6 rfl (rfl) fun a7 ha7 => ?_
          refine sq_val (v := ptv (⟨min m (x + k), y⟩)) ha7 rfl (run_buildPt rfl rfl) fun a8 ha8 => ?_
          refine sq_val (v := .slice (some ⟨w7.heap.size, 0, none⟩) 1 1) ha8 rfl (run_litPt rfl) fun a9 ha9 => ?_
          obtain ⟨v', w9, h1, h2, h3⟩ := append_pt (ty := 26) (s := ⟨min m (x + k), y⟩) HL2.out.2.1.size HL2.out.1 hqs
          refine sq_val (v := v') ha9 rfl (run_append rfl rfl h1) fun a10 ha10 => ?_
          refine sq_val (v := v') ha10 rfl (rfl) fun a11 ha11 => ?_
          refine wpList_nil ?_
          refine hKn _ _ ?_
          obtain ⟨g9, hg9, k0, k1, k2, k3, k4, k5, k6, k7, k8, k9, k10, k11, k12, k13, k14, k15, k16, k17, k18, k19, k20, k21, k22, k23, k24, k25, k26, k27, k28, k29, k30, k31, k32, k33, k34, k35, k36, k37, k38, k39, k40, k41, k42, k43, k44, k45, k46, k60, k61, k62, k63, k64, k65⟩ : ∃ g9, Is a11 66 g9 ∧ g9 0 = .slice (some a) n c ∧ g9 1 = .int .i64 m ∧ g9 2 = undef ∧ g9 3 = undef ∧ g9 4 = .slice none 0 0 ∧ g9 5 = v' ∧ g9 6 = .int .i64 i ∧ g9 7 = .int .i64 x ∧ g9 8 = .int .i64 y ∧ g9 9 = .int .i64 k ∧ g9 10 = undef ∧ g9 11 = undef ∧ g9 12 = gA 12 ∧ g9 13 = gA 13 ∧ g9 14 = gA 14 ∧ g9 15 = gA 15 ∧ g9 16 = gA 16 ∧ g9 17 = gA 17 ∧ g9 18 = gA 18 ∧ g9 19 = gA 19 ∧ g9 20 = gA 20 ∧ g9 21 = gA 21 ∧ g9 22 = gA 22 ∧ g9 23 = gA 23 ∧ g9 24 = gA 24 ∧ g9 25 = gA 25 ∧ g9 26 = gA 26 ∧ g9 27 = gA 27 ∧ g9 28 = gA 28 ∧ g9 29 = gA 29 ∧ g9 30 = gA 30 ∧ g9 31 = gA 31 ∧ g9 32 = gA 32 ∧ g9 33 = gA 33 ∧ g9 34 = gA 34 ∧ g9 35 = gA 35 ∧ g9 36 = gA 36 ∧ g9 37 = gA 37 ∧ g9 38 = gA 38 ∧ g9 39 = gA 39 ∧ g9 40 = gA 40 ∧ g9 41 = gA 41 ∧ g9 42 = gA 42 ∧ g9 43 = gA 43 ∧ g9 44 = gA 44 ∧ g9 45 = .int .i64 Z ∧ g9 46 = .int .i64 k ∧ g9 60 = undef ∧ g9 61 = undef ∧ g9 62 = undef ∧ g9 63 = undef ∧ g9 64 = undef ∧ g9 65 = undef := ⟨_, ha11, rfl, rfl, rfl, rfl, rfl, rfl, rfl, rfl, rfl, rfl, rfl, rfl, rfl, rfl, rfl, rfl, rfl, rfl, rfl, rfl, rfl, rfl, rfl, rfl, rfl, rfl, rfl, rfl, rfl, rfl, rfl, rfl, rfl, rfl, rfl, rfl, rfl, rfl, rfl, rfl, rfl, rfl, rfl, rfl, rfl, rfl, rfl, rfl, rfl, rfl, rfl, rfl, rfl⟩
          have hw := hg9.whole
          rw [show ((List.range 66).map g9).toArray = #[g9 0, g9 1, g9 2, g9 3, g9 4, g9 5, g9 6, g9 7, g9 8, g9 9, g9 10, g9 11, g9 12, g9 13, g9 14, g9 15, g9 16, g9 17, g9 18, g9 19, g9 20, g9 21, g9 22, g9 23, g9 24, g9 25, g9 26, g9 27, g9 28, g9 29, g9 30, g9 31, g9 32, g9 33, g9 34, g9 35, g9 36, g9 37, g9 38, g9 39, g9 40, g9 41, g9 42, g9 43, g9 44, g9 45, g9 46, g9 47, g9 48, g9 49, g9 50, g9 51, g9 52, g9 53, g9 54, g9 55, g9 56, g9 57, g9 58, g9 59, g9 60, g9 61, g9 62, g9 63, g9 64, g9 65] from rfl] at hw
          rw [k0, k1, k2, k3, k4, k5, k6, k7, k8, k9, k10, k11, k12, k13, k14, k15, k16, k17, k18, k19, k20, k21, k22, k23, k24, k25, k26, k27, k28, k29, k30, k31, k32, k33, k34, k35, k36, k37, k38, k39, k40, k41, k42, k43, k44, k45, k46, k60, k61, k62, k63, k64, k65] at hw
          subst hw
          clear hg9 k0 k1 k2 k3 k4 k5 k6 k7 k8 k9 k10 k11 k12 k13 k14 k15 k16 k17 k18 k19 k20 k21 k22 k23 k24 k25 k26 k27 k28 k29 k30 k31 k32 k33 k34 k35 k36 k37 k38 k39 k40 k41 k42 k43 k44 k45 k46 k60 k61 k62 k63 k64 k65
          have HO9 := hid h2
          have HG9 := hid h3
          clear h1 h2 h3
          clear ha0 ha1 ha2 ha3 ha4 ha5 ha6 ha7 ha8 ha9 ha10 ha11 hKn Kn
          have HL9 : Hid (NL m w i (k + 1) v' w9) := hid ⟨qs ++ [⟨min m (x + k), y⟩], HO9.out, HL2.out.2.1.trans (HG9.out.below HL2.out.2.1.size (fun b hb => (HL2.out.1.ge b hb).1)), by rw [List.length_append]; have := HQl.out; simp only [List.length_cons, List.length_nil]; omega, fun p hp => by
            rcases List.mem_append.1 hp with h | h
            · exact HL2.out.2.2 p h
            · rw [List.mem_singleton.1 h]; show (-m ≤ min m (x + k) ∧ min m (x + k) ≤ m) ∧ -m ≤ y ∧ y ≤ m; omega⟩
          clear HO9 HG9
          go_wp2_with fail
          go_roundw
          case rel => exact ⟨k + 1, v', rfl, by omega, by go_num, HL9⟩
          case measure => simp [intOf]; omega
        · have HL9 : Hid (NL m w (i + 1) 0 v w7) := hid (by
            obtain ⟨ps, h1, h2, h3, h4⟩ := HLk.out
            exact ⟨ps, h1, h2, by omega, h4⟩)
          go_wp2_with fail
          go_roundw
          case rel => exact ⟨i + 1, v, rfl, by omega, by omega, by go_num, HL9⟩
          case measure => simp [intOf]; omega
    · obtain ⟨ps, h1, h2, h3, h4⟩ := HL.out
      have HH := hid (show OwnP wr w.heap.size v ps ∧ Below w.heap.size w wr ∧ ps.length ≤ 360 ∧ InSq m ps from ⟨h1, h2, by omega, h4⟩)
      obtain ⟨A5, c5, hv5, hr5⟩ := h1.is
      have HR5 := hid hr5
      obtain ⟨w6, rfl⟩ : ∃ w6, w6 = wr := ⟨_, rfl⟩
      obtain ⟨L, hL⟩ : ∃ L, L = ps.length := ⟨_, rfl⟩
      rw [← hL] at hv5
      have HLn := hid hL
      have hL3 : L ≤ 360 := by omega
      have HE := hid (show ofE ps = 0 from if_pos fun p hp => by have := h4 p hp; unfold PIn; omega)
      clear h1 h2 h3 h4 hr5 hL
      subst hv5
      have hcond : (i < n ∧ ¬ i < 30) ∨ ¬ i < n := by omega
      rcases hcond with ⟨hc1, hc2⟩ | hc1
      · go_wp2_with fail
        (with_reducible refine (of_any A5 ps L c5 _ HLn.out (by omega) HR5.out).mono ?_); rintro e w8 ⟨v8, rs, rfl, ho, hb, hl, hm, -⟩
        have HF := hid (show GivesNear m w (.returned v8) w8 from ⟨v8, rs, rfl, ho.mono HH.out.2.1.size, HH.out.2.1.trans (hb.mono HH.out.2.1.size), (hm HE.out).ok, Nat.le_trans hl HH.out.2.2.1, ps, hm HE.out, HH.out.2.2.2⟩)
        clear ho hb hl hm
        go_wp2_with fail
        go_ret
        exact HF.out
      · go_wp2_with fail
        (with_reducible refine (of_any A5 ps L c5 _ HLn.out (by omega) HR5.out).mono ?_); rintro e w8 ⟨v8, rs, rfl, ho, hb, hl, hm, -⟩
        have HF := hid (show GivesNear m w (.returned v8) w8 from ⟨v8, rs, rfl, ho.mono HH.out.2.1.size, HH.out.2.1.trans (hb.mono HH.out.2.1.size), (hm HE.out).ok, Nat.le_trans hl HH.out.2.2.1, ps, hm HE.out, HH.out.2.2.2⟩)
        clear ho hb hl hm
        go_wp2_with fail
        go_ret
        exact HF.out

end Go.Proofs.Ytldbpabnfjnpbaa
