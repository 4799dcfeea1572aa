/- ConicMoves: shifting a path shifts its lines. -/
import Derived.Test.YtcdedefhofkbhaaRows
import Derived.WalkKit
import Derived.ProofKit
import Derived.OpenShut
import Derived.ChangeOld
import Derived.Below
import Derived.Test.YtcdedefhofkbhaaOpen
import Derived.Test.YtcdedefhofkbhaaMvC
import Derived.Test.YtcdedefhofkbhaaArcs
import Derived.Test.YtcdedefhofkbhaaCut
namespace Go.Proofs.Ytcdedefhofkbhaa.conicMoves
open Go Go.ChangeShapes Go.WideShapes Go.ChangeAt Go.RowKit Go.Deep
set_option linter.unusedVariables false

-- caps
abbrev P41 (x y : Int) : Array Value := #[.int .i64 4096, .int .i64 0, .int .i64 0, .int .i64 4096, .int .i64 (4096 * x), .int .i64 (4096 * y)]
structure MvS (W w : World) (g g' b7 gp gq i n cq : Nat) (es2 es4 : List LE) (ps : List P2) (dx dy : Int) : Prop where
  rl : RowV w g es2
  rm : RowV w g' es4
  v : Var w b7 (P41 dx dy) 48
  b : Below W.heap.size W w
  p : Row2 w gp ps
  lp : gp < w.heap.size
  q : Row2 w gq (ps.map (·.sh dx dy))
  lq : gq < w.heap.size
  c : w.cell? ⟨g', i * 2, none⟩ = some (.slice (some ⟨gq, 0, none⟩) n cq)
theorem MvS.next {W w w' : World} {g g' b7 gp gq i n cq : Nat} {es2 es4 : List LE} {ps : List P2} {dx dy : Int} (h : MvS W w g g' b7 gp gq i n cq es2 es4 ps dx dy) (hb : Below w.heap.size w w') : MvS W w' g g' b7 gp gq i n cq es2 es4 ps dx dy :=
  ⟨h.rl.next hb, h.rm.next hb, h.v.next hb, below_next h.b hb, h.p.next h.lp hb, Nat.lt_of_lt_of_le h.lp hb.size, h.q.next h.lq hb, Nat.lt_of_lt_of_le h.lq hb.size, (Below.cell (p := ⟨g', i * 2, none⟩) hb h.rm.1).trans h.c⟩
set_option maxHeartbeats 6400000 in
set_option maxRecDepth 100000 in
theorem rest (A : Option Addr) (n c : Nat) (ss : List Sg) (x1 x2 : Int) (W : World) (hn : n = ss.length) (hs : Segs W A ss) (hm : ss.length ≤ maxLen) (hc : n ≤ c ∧ c ≤ maxLen) :
    Calls Try.prog 6 #[.slice A n c, .int .i64 x1, .int .i64 x2] W fun e w' => e = .returned (.bool true) ∧ Below W.heap.size W w' := by
  have HS := hid hs
  have HN := hid hn
  obtain ⟨hc1, hc2⟩ := hc
  unfold maxLen at hc2 hm
  rw [← hn] at hm
  clear hs hn
  go_enter Try.func6, Try.ntmps6
  go_wp2_with fail
  (with_reducible refine (arcs_any _).mono ?_); rintro e w1 ⟨rfl, hb⟩
  have HB := hid hb
  have HS0 := hid (HS.out.next hb)
  clear hb HS
  by_cases hlt : 12 < n
  · have hn1 : 12 = (ss.take 12).length := by rw [List.length_take]; have := HN.out; omega
    have HS1 := hid (HS0.out.take 12)
    clear HS0
    have HN1 := hid hn1
    have HLT := hid hlt
    have hltb : decide ((12 : Int) < (n : Int)) = true := decide_eq_true (by have := HLT.out; omega)
    have hcc : 12 ≤ c := by have := HLT.out; omega
    clear hn1 hlt
    go_upto_region 5 with fail
    clear hltb HLT
    go_wp2_with fail
    (with_reducible refine (cut_in x1 (-3000) 3000 _ (by omega) (by omega) (by omega) (by omega)).mono ?_); rintro e w2 ⟨dx, d1, d2, rfl, rfl⟩
    go_wp2_with fail
    (with_reducible refine (cut_in x2 (-3000) 3000 _ (by omega) (by omega) (by omega) (by omega)).mono ?_); rintro e w2 ⟨dy, d3, d4, rfl, rfl⟩
    have HD := hid (show Sml dx dy from ⟨⟨d1, d2⟩, ⟨d3, d4⟩⟩)
    clear d1 d2 d3 d4
    go_wp2_with fail
    (with_reducible refine (shift_sml dx dy _ HD.out).mono ?_); rintro e w2 ⟨rfl, hb⟩
    have HX := hid (below_alloc (Below.refl _ w2) (.cells (P41 dx dy) 48))
    have HB2 := hid (below_next (below_next HB.out hb) HX.out)
    have HS2 := hid ((HS1.out.next hb).next HX.out)
    have HV7 := hid (Var.new w2 (P41 dx dy) 48 _ rfl)
    clear hb HX HB HS1
    go_upto_region 6 with fail
    generalize w2.alloc _ = w3 at HV7 HB2 HS2 ⊢
    generalize w2.heap.size = b7 at HV7 ⊢
    clear w2
    obtain ⟨q0, q1, q2, q3, q4, q5, qf⟩ := HV7.out.read6
    go_wp2_with fail
    clear q0 q1 q2 q3 q4 q5 qf
    (with_reducible refine (map_sh A (ss.take 12) 12 c dx dy _ HN1.out HS2.out).mono ?_); rintro e w6 ⟨⟨A2, n2, c2, rfl, hn2, hs2⟩, hb⟩
    have HB6 := hid (below_next HB2.out hb)
    have HV6 := hid (HV7.out.next hb)
    have HS6 := hid (HS2.out.next hb)
    clear hb HB2 HV7 HS2
    have hbad : mE (shm dx dy) (ss.take 12) ≠ 0 ∨ chk (ss.take 12) = 0 ∧ mE (shm dx dy) (ss.take 12) = 0 ∧ mS (shm dx dy) (ss.take 12) = (ss.take 12).map (sh dx dy) ∧ chk ((ss.take 12).map (sh dx dy)) = 0 := by
      by_cases hok : chk (ss.take 12) = 0
      · rcases moved HD.out hok with ⟨e1, e2, e3⟩ | hE
        · exact .inr ⟨hok, e1, e2, e3⟩
        · exact .inl hE
      · exact .inl (moved_bad hok)
    rcases hbad with hE | ⟨hok, e1, e2, e3⟩
    · have hne : (mE (shm dx dy) (ss.take 12) != 0) = true := by simp [hE]
      clear hE hn2 hs2 HS6 HV6 HD
      generalize mE (shm dx dy) (ss.take 12) = r at hne ⊢
      go_wp2_with fail
      go_ret
      exact ⟨rfl, HB6.out⟩
    · rw [e1]
      rw [e2] at hn2 hs2
      have HF1 := fun w (h1 : Segs w A (ss.take 12)) => hid (flatten_good A (ss.take 12) 12 c w HN1.out h1 hok)
      have HF2 := fun w (h1 : Segs w A2 ((ss.take 12).map (sh dx dy))) => hid (flatten_good A2 ((ss.take 12).map (sh dx dy)) n2 c2 w hn2 h1 e3)
      rw [flatL_sh' hok] at HF2
      have HLL := hid (flat_lenV hok)
      have HI1 := hid (flat_in' hok)
      have hi2 := flat_in' e3
      rw [flatL_sh' hok] at hi2
      have HI2 := hid hi2
      have HS7 := hid hs2
      clear hi2 hok e1 e2 e3 hn2 hs2
      generalize flatL (ss.take 12) = LS at HF1 HF2 HLL HI1 HI2
      go_wp2_with fail
      (with_reducible refine (HF1 _ HS6.out).out.mono ?_); rintro e w7 ⟨v2, es2, rfl, ho2, he2, hb⟩
      have HB7 := hid (below_next HB6.out hb)
      have HV7 := hid (HV6.out.next hb)
      have HS8 := hid (HS7.out.next hb)
      have HO2 := hid ho2
      have HE2 := hid he2
      clear hb ho2 he2 HB6 HV6 HS6 HS7 HF1
      go_wp2_with fail
      (with_reducible refine (HF2 _ HS8.out).out.mono ?_); rintro e w8 ⟨v4, es4, rfl, ho4, he4, hb⟩
      have HB8 := hid (below_next HB7.out hb)
      have HV8 := hid (HV7.out.next hb)
      have HE4 := hid he4
      obtain ⟨Ar, cr, hv2, hr2⟩ := (HO2.out.next hb).rowV
      obtain ⟨As, cs, hv4, hr4⟩ := ho4.rowV
      have HMM := hid (show es4.length = es2.length by have := congrArg List.length HE4.out; have := congrArg List.length HE2.out; simp at *; omega)
      rw [HMM.out] at hv4 hr4
      have hle : es2.length ≤ 1000 := by have := congrArg List.length HE2.out; have := HLL.out.1; simp at *; omega
      clear hb ho4 he4 HB7 HV7 HS8 HO2 HF2
      subst hv2 hv4
      rcases Nat.eq_zero_or_pos es2.length with hm0 | hm0
      · rw [hm0]
        clear HE2 HE4 HLL hr2 hr4 HMM hle hm0 HI1 HI2 HV8 HD
        go_wp2_with fail
        go_loopw [67] (fun s67 wr => s67 = .int .i64 0 ∧ Hid (Below W.heap.size W wr)) (fun s67 _ => 0)
        case atStart => exact ⟨rfl, HB8⟩
        case round =>
          obtain ⟨rfl, HB⟩ := hrel
          go_wp2_with fail
          go_ret
          exact ⟨rfl, HB.out⟩
      · obtain ⟨g, rfl, hrl⟩ := hr2 hm0
        obtain ⟨g', rfl, hrm⟩ := hr4 hm0
        have HRL := hid hrl
        have HRM := hid hrm
        have HEE := hid (HE4.out.trans (congrArg (List.map (shLn dx dy)) HE2.out.symm))
        have HLN := hid (fun e (he : e ∈ es2) => HLL.out.2 e.2 (by rw [← HE2.out]; exact List.mem_map.2 ⟨e, he, rfl⟩))
        have HJ1 := hid (fun e (he : e ∈ es2) => HI1.out e.2 (by rw [← HE2.out]; exact List.mem_map.2 ⟨e, he, rfl⟩))
        have HJ2 := hid (fun e (he : e ∈ es4) => HI2.out e.2 (by rw [← HE4.out]; exact List.mem_map.2 ⟨e, he, rfl⟩))
        clear HE2 HE4 HLL HI1 HI2 hrl hrm hr2 hr4
        obtain ⟨m, hm⟩ : ∃ m, m = es2.length := ⟨_, rfl⟩
        have HMQ := hid hm
        rw [← hm] at hm0 hle
        rw [← hm] at HMM
        rw [← hm]
        clear hm
        have hmm : ((m : Int) != (m : Int)) = false := by simp
        go_wp2_with fail
        refine wp_frameV (n := 116) rfl fun gA hgA => ?_
        have k7 : gA 7 = .pointer (some ⟨b7, 0, none⟩) := hgA 7 (by decide)
        have k11 : gA 11 = .slice (some ⟨g, 0, none⟩) m cr := hgA 11 (by decide)
        have k12 : gA 12 = .slice (some ⟨g', 0, none⟩) m cs := hgA 12 (by decide)
        have k66 : gA 66 = .int .i64 (m) := hgA 66 (by decide)
        have k67 : gA 67 = .int .i64 0 := hgA 67 (by decide)
        rw [show ((List.range 116).map gA).toArray = #[gA 0, gA 1, gA 2, gA 3, gA 4, gA 5, gA 6, gA 7, gA 8, gA 9, gA 10, gA 11, gA 12, gA 13, gA 14, gA 15, gA 16, gA 17, gA 18, gA 19, gA 20, gA 21, gA 22, gA 23, gA 24, gA 25, gA 26, gA 27, gA 28, gA 29, gA 30, gA 31, gA 32, gA 33, gA 34, gA 35, gA 36, gA 37, gA 38, gA 39, gA 40, gA 41, gA 42, gA 43, gA 44, gA 45, gA 46, gA 47, gA 48, gA 49, gA 50, gA 51, gA 52, gA 53, gA 54, gA 55, gA 56, gA 57, gA 58, gA 59, gA 60, gA 61, gA 62, gA 63, gA 64, gA 65, gA 66, gA 67, gA 68, gA 69, gA 70, gA 71, gA 72, gA 73, gA 74, gA 75, gA 76, gA 77, gA 78, gA 79, gA 80, gA 81, gA 82, gA 83, gA 84, gA 85, gA 86, gA 87, gA 88, gA 89, gA 90, gA 91, gA 92, gA 93, gA 94, gA 95, gA 96, gA 97, gA 98, gA 99, gA 100, gA 101, gA 102, gA 103, gA 104, gA 105, gA 106, gA 107, gA 108, gA 109, gA 110, gA 111, gA 112, gA 113, gA 114, gA 115] from rfl]
        dsimp only
        rw [k7, k11, k12, k66, k67]
        clear hgA k7 k11 k12 k66 k67
        clear hmm
        go_loopw [67] (fun s67 wr => ∃ i : Nat, i ≤ m ∧ s67 = .int .i64 i ∧ Hid (RowV wr g es2) ∧ Hid (RowV wr g' es4) ∧ Hid (Var wr b7 (P41 dx dy) 48) ∧ Hid (Below W.heap.size W wr)) (fun s67 _ => m - (intOf s67).toNat)
        case atStart => exact ⟨0, Nat.zero_le _, rfl, HRL, HRM, HV8, HB8⟩
        case round =>
          clear HRL HRM HV8 HB8
          obtain ⟨i, hi, rfl, HRL, HRM, HV, HB⟩ := hrel
          by_cases hlt : i < m
          · have hkl : i < es2.length := by rw [← HMQ.out]; exact hlt
            have hkl' : i < es4.length := by rw [HMM.out]; exact hlt
            have hq := List.getElem?_eq_getElem hkl
            have hq' := List.getElem?_eq_getElem hkl'
            have hsame : es4[i].2 = shLn dx dy es2[i].2 := by
              have := congrArg (fun l => l[i]?) HEE.out
              simpa [hq, hq'] using this
            obtain ⟨hc0, -, gp, cp, hv, hgp, hrp⟩ := HRL.out.2 i _ hq
            obtain ⟨hd0, -, gq, cq, hv', hgq, hrq⟩ := HRM.out.2 i _ hq'
            have hg := HRL.out.1
            have hg' := HRM.out.1
            have hm1 := HLN.out _ (List.getElem_mem hkl)
            have hj1 := HJ1.out _ (List.getElem_mem hkl)
            have hj2 := HJ2.out _ (List.getElem_mem hkl')
            rw [hsame] at hv' hrq hj2
            rw [hv] at hc0
            rw [hv'] at hd0
            obtain ⟨ps, hps⟩ : ∃ ps, ps = (es2[i]).2.ps := ⟨_, rfl⟩
            obtain ⟨q, hQ⟩ : ∃ q, q = ps.length := ⟨_, rfl⟩
            rw [show (shLn dx dy es2[i].2).ps.length = q by rw [hQ, hps]; simp [shLn]] at hd0
            rw [show (es2[i]).2.ps.length = q by rw [hQ, hps]] at hc0 hm1
            rw [← hps] at hrp hj1
            have hrq2 : Row2 wr gq (ps.map (·.sh dx dy)) := by rw [hps]; exact hrq
            have hj3 : ∀ p ∈ ps.map (·.sh dx dy), In3 p := by rw [hps]; exact hj2
            have HQ := hid hQ
            have HR1 := hid hrp
            have HR2 := hid hrq2
            have HP1 := hid hj1
            have HP2 := hid hj3
            have HZ1 := hid hgp
            have HZ2 := hid hgq
            clear hv hv' hsame hq hq' hrp hrq hrq2 hj1 hj2 hj3 hps hQ hkl hkl' hgp hgq
            go_upto_region 16 with fail
            rename ∀ (a : Act) (w : World), Code.wp _ _ _ a w → (_ : Act → World → Prop) a w => hKn
            refine wp_region_fan 12 1000 (Over wr) (by kernel_rfl) (by kernel_rfl) (Over.start wr) ?_
            simp only [List.take_succ_cons, List.take_zero, List.drop_succ_cons, List.drop_zero]
            have L1 := fun b w1 (h : Over wr b w1) => (Below.cell (p := ⟨g, i * 2, none⟩) h hg).trans hc0
            have L2 := fun b w1 (h : Over wr b w1) => (Below.cell (p := ⟨g', i * 2, none⟩) h hg').trans hd0
            refine WalksE.sound _ _ _ _ ?_ ((((((((((((((((((((((((((((((((((((((((((((((((((((((((((((((((Is.start _ (n := 116) rfl).pin 0 (v := gA 0) rfl).pin 1 (v := gA 1) rfl).pin 2 (v := gA 2) rfl).pin 3 (v := gA 3) rfl).pin 4 (v := gA 4) rfl).pin 5 (v := gA 5) rfl).pin 7 (v := .pointer (some ⟨b7, 0, none⟩)) rfl).pin 8 (v := gA 8) rfl).pin 9 (v := gA 9) rfl).pin 10 (v := gA 10) rfl).pin 11 (v := .slice (some ⟨g, 0, none⟩) m cr) rfl).pin 12 (v := .slice (some ⟨g', 0, none⟩) m cs) rfl).pin 13 (v := gA 13) rfl).pin 14 (v := .int .i64 (i)) rfl).pin 19 (v := gA 19) rfl).pin 20 (v := gA 20) rfl).pin 21 (v := gA 21) rfl).pin 22 (v := gA 22) rfl).pin 23 (v := gA 23) rfl).pin 24 (v := gA 24) rfl).pin 25 (v := gA 25) rfl).pin 26 (v := gA 26) rfl).pin 27 (v := gA 27) rfl).pin 28 (v := gA 28) rfl).pin 29 (v := gA 29) rfl).pin 30 (v := gA 30) rfl).pin 31 (v := gA 31) rfl).pin 32 (v := gA 32) rfl).pin 33 (v := gA 33) rfl).pin 34 (v := gA 34) rfl).pin 35 (v := gA 35) rfl).pin 36 (v := gA 36) rfl).pin 37 (v := gA 37) rfl).pin 38 (v := gA 38) rfl).pin 39 (v := gA 39) rfl).pin 40 (v := gA 40) rfl).pin 41 (v := gA 41) rfl).pin 42 (v := gA 42) rfl).pin 43 (v := gA 43) rfl).pin 44 (v := gA 44) rfl).pin 45 (v := gA 45) rfl).pin 46 (v := gA 46) rfl).pin 47 (v := gA 47) rfl).pin 48 (v := gA 48) rfl).pin 49 (v := gA 49) rfl).pin 50 (v := gA 50) rfl).pin 51 (v := gA 51) rfl).pin 52 (v := gA 52) rfl).pin 53 (v := gA 53) rfl).pin 54 (v := gA 54) rfl).pin 55 (v := gA 55) rfl).pin 56 (v := gA 56) rfl).pin 57 (v := gA 57) rfl).pin 58 (v := gA 58) rfl).pin 59 (v := gA 59) rfl).pin 60 (v := gA 60) rfl).pin 61 (v := gA 61) rfl).pin 62 (v := gA 62) rfl).pin 63 (v := gA 63) rfl).pin 64 (v := gA 64) rfl).pin 65 (v := gA 65) rfl).pin 66 (v := .int .i64 (m)) rfl).pin 67 (v := .int .i64 (i)) rfl)
            generalize (fun i => Array.getD _ i undef) = gfn
            refine walks_with fun KQ hKQ => ?_
            (refine walks_one fun K hK => ?_); refine st_pure rfl rfl (fun _ => rfl) ?_; refine hK _ ?_; clear hK K
            (refine walks_one fun K hK => ?_); refine st_pure rfl rfl (fun _ => rfl) ?_; refine hK _ ?_; clear hK K
            (refine walks_one fun K hK => ?_); refine st_pure (v := .pointer (some ⟨g, i * 2, none⟩)) rfl rfl (fun _ => (run_indexLn (a := ⟨g, 0, none⟩) (j := i) rfl rfl (by omega) (by omega)).trans (by rw [addr0, Int.toNat_natCast])) ?_; refine hK _ ?_; clear hK K
            (refine walks_one fun K hK => ?_); refine st_pure rfl rfl (fun _ => run_fld_line0 rfl) ?_; refine hK _ ?_; clear hK K
            (refine walks_one fun K hK => ?_); refine st_read rfl rfl (fun _ _ h => run_loadSl rfl (L1 _ _ h)) ?_; refine hK _ ?_; clear hK K
            (refine walks_one fun K hK => ?_); refine st_pure rfl rfl (fun _ => run_lenP rfl) ?_; refine hK _ ?_; clear hK K
            (refine walks_one fun K hK => ?_); refine st_pure rfl rfl (fun _ => rfl) ?_; refine hK _ ?_; clear hK K
            (refine walks_one fun K hK => ?_); refine st_pure rfl rfl (fun _ => rfl) ?_; refine hK _ ?_; clear hK K
            (refine walks_one fun K hK => ?_); refine st_pure (v := .pointer (some ⟨g', i * 2, none⟩)) rfl rfl (fun _ => (run_indexLn (a := ⟨g', 0, none⟩) (j := i) rfl rfl (by omega) (by omega)).trans (by rw [addr0, Int.toNat_natCast])) ?_; refine hK _ ?_; clear hK K
            (refine walks_one fun K hK => ?_); refine st_pure rfl rfl (fun _ => run_fld_line0 rfl) ?_; refine hK _ ?_; clear hK K
            (refine walks_one fun K hK => ?_); refine st_read rfl rfl (fun _ _ h => run_loadSl rfl (L2 _ _ h)) ?_; refine hK _ ?_; clear hK K
            (refine walks_one fun K hK => ?_); refine st_pure rfl rfl (fun _ => run_lenP rfl) ?_; refine hK _ ?_; clear hK K
            refine walks_end fun a9 ha9 => hKQ _ fun w1 hC => ?_
            refine sq_val (v := .bool false) ha9 rfl (run_neN (i := q) rfl rfl) fun a10 ha10 => ?_
            refine wpList_nil ?_
            refine hKn _ _ ?_
            obtain ⟨g9, hg9, k0, k1, k2, k3, k4, k5, k7, k8, k9, k10, k11, k12, k13, k14, k19, k20, k21, k22, k23, k24, k25, k26, k27, k28, k29, k30, k31, k32, k33, k34, k35, k36, k37, k38, k39, k40, k41, k42, k43, k44, k45, k46, k47, k48, k49, k50, k51, k52, k53, k54, k55, k56, k57, k58, k59, k60, k61, k62, k63, k64, k65, k66, k67, k82⟩ : ∃ g9, Is a10 116 g9 ∧ g9 0 = gA 0 ∧ g9 1 = gA 1 ∧ g9 2 = gA 2 ∧ g9 3 = gA 3 ∧ g9 4 = gA 4 ∧ g9 5 = gA 5 ∧ g9 7 = .pointer (some ⟨b7, 0, none⟩) ∧ g9 8 = gA 8 ∧ g9 9 = gA 9 ∧ g9 10 = gA 10 ∧ g9 11 = .slice (some ⟨g, 0, none⟩) m cr ∧ g9 12 = .slice (some ⟨g', 0, none⟩) m cs ∧ g9 13 = gA 13 ∧ g9 14 = .int .i64 (i) ∧ g9 19 = gA 19 ∧ g9 20 = gA 20 ∧ g9 21 = gA 21 ∧ g9 22 = gA 22 ∧ g9 23 = gA 23 ∧ g9 24 = gA 24 ∧ g9 25 = gA 25 ∧ g9 26 = gA 26 ∧ g9 27 = gA 27 ∧ g9 28 = gA 28 ∧ g9 29 = gA 29 ∧ g9 30 = gA 30 ∧ g9 31 = gA 31 ∧ g9 32 = gA 32 ∧ g9 33 = gA 33 ∧ g9 34 = gA 34 ∧ g9 35 = gA 35 ∧ g9 36 = gA 36 ∧ g9 37 = gA 37 ∧ g9 38 = gA 38 ∧ g9 39 = gA 39 ∧ g9 40 = gA 40 ∧ g9 41 = gA 41 ∧ g9 42 = gA 42 ∧ g9 43 = gA 43 ∧ g9 44 = gA 44 ∧ g9 45 = gA 45 ∧ g9 46 = gA 46 ∧ g9 47 = gA 47 ∧ g9 48 = gA 48 ∧ g9 49 = gA 49 ∧ g9 50 = gA 50 ∧ g9 51 = gA 51 ∧ g9 52 = gA 52 ∧ g9 53 = gA 53 ∧ g9 54 = gA 54 ∧ g9 55 = gA 55 ∧ g9 56 = gA 56 ∧ g9 57 = gA 57 ∧ g9 58 = gA 58 ∧ g9 59 = gA 59 ∧ g9 60 = gA 60 ∧ g9 61 = gA 61 ∧ g9 62 = gA 62 ∧ g9 63 = gA 63 ∧ g9 64 = gA 64 ∧ g9 65 = gA 65 ∧ g9 66 = .int .i64 (m) ∧ g9 67 = .int .i64 (i) ∧ g9 82 = .bool false := ⟨_, ha10, rfl, rfl, rfl, rfl, rfl, rfl, rfl, rfl, rfl, rfl, rfl, rfl, rfl, rfl, rfl, rfl, rfl, rfl, rfl, rfl, rfl, rfl, rfl, rfl, rfl, rfl, rfl, rfl, rfl, rfl, rfl, rfl, rfl, rfl, rfl, rfl, rfl, rfl, rfl, rfl, rfl, rfl, rfl, rfl, rfl, rfl, rfl, rfl, rfl, rfl, rfl, rfl, rfl, rfl, rfl, rfl, rfl, rfl, rfl, rfl, rfl, rfl, rfl, rfl⟩
            have hw := hg9.whole
            rw [show ((List.range 116).map g9).toArray = #[g9 0, g9 1, g9 2, g9 3, g9 4, g9 5, g9 6, g9 7, g9 8, g9 9, g9 10, g9 11, g9 12, g9 13, g9 14, g9 15, g9 16, g9 17, g9 18, g9 19, g9 20, g9 21, g9 22, g9 23, g9 24, g9 25, g9 26, g9 27, g9 28, g9 29, g9 30, g9 31, g9 32, g9 33, g9 34, g9 35, g9 36, g9 37, g9 38, g9 39, g9 40, g9 41, g9 42, g9 43, g9 44, g9 45, g9 46, g9 47, g9 48, g9 49, g9 50, g9 51, g9 52, g9 53, g9 54, g9 55, g9 56, g9 57, g9 58, g9 59, g9 60, g9 61, g9 62, g9 63, g9 64, g9 65, g9 66, g9 67, g9 68, g9 69, g9 70, g9 71, g9 72, g9 73, g9 74, g9 75, g9 76, g9 77, g9 78, g9 79, g9 80, g9 81, g9 82, g9 83, g9 84, g9 85, g9 86, g9 87, g9 88, g9 89, g9 90, g9 91, g9 92, g9 93, g9 94, g9 95, g9 96, g9 97, g9 98, g9 99, g9 100, g9 101, g9 102, g9 103, g9 104, g9 105, g9 106, g9 107, g9 108, g9 109, g9 110, g9 111, g9 112, g9 113, g9 114, g9 115] from rfl] at hw
            dsimp only at hw
            rw [k0, k1, k2, k3, k4, k5, k7, k8, k9, k10, k11, k12, k13, k14, k19, k20, k21, k22, k23, k24, k25, k26, k27, k28, k29, k30, k31, k32, k33, k34, k35, k36, k37, k38, k39, k40, k41, k42, k43, k44, k45, k46, k47, k48, k49, k50, k51, k52, k53, k54, k55, k56, k57, k58, k59, k60, k61, k62, k63, k64, k65, k66, k67, k82] at hw
            subst hw
            clear hg9 k0 k1 k2 k3 k4 k5 k7 k8 k9 k10 k11 k12 k13 k14 k19 k20 k21 k22 k23 k24 k25 k26 k27 k28 k29 k30 k31 k32 k33 k34 k35 k36 k37 k38 k39 k40 k41 k42 k43 k44 k45 k46 k47 k48 k49 k50 k51 k52 k53 k54 k55 k56 k57 k58 k59 k60 k61 k62 k63 k64 k65 k66 k67 k82
            have hc0 := (Below.cell (p := ⟨g, i * 2, none⟩) hC hg).trans hc0
            have HM := hid (show MvS W w1 g g' b7 gp gq i q cq es2 es4 ps dx dy from ⟨HRL.out.next hC, HRM.out.next hC, HV.out.next hC, below_next HB.out hC, HR1.out.next HZ1.out hC, Nat.lt_of_lt_of_le HZ1.out hC.size, HR2.out.next HZ2.out hC, Nat.lt_of_lt_of_le HZ2.out hC.size, (Below.cell (p := ⟨g', i * 2, none⟩) hC hg').trans hd0⟩)
            clear ha9 ha10 hC hKQ KQ hKn L1 L2 hd0 HRL HRM HV HB HR1 HR2 HZ1 HZ2 hg hg'
            rename w1.cell? ⟨g, i * 2, none⟩ = _ => hc1
            go_wp2_with fail
            clear hc1
            refine wp_frameV (n := 116) rfl fun gB hgB => ?_
            have k0 : gB 0 = gA 0 := hgB 0 (by decide)
            have k1 : gB 1 = gA 1 := hgB 1 (by decide)
            have k2 : gB 2 = gA 2 := hgB 2 (by decide)
            have k3 : gB 3 = gA 3 := hgB 3 (by decide)
            have k4 : gB 4 = gA 4 := hgB 4 (by decide)
            have k5 : gB 5 = gA 5 := hgB 5 (by decide)
            have k7 : gB 7 = .pointer (some ⟨b7, 0, none⟩) := hgB 7 (by decide)
            have k8 : gB 8 = gA 8 := hgB 8 (by decide)
            have k9 : gB 9 = gA 9 := hgB 9 (by decide)
            have k10 : gB 10 = gA 10 := hgB 10 (by decide)
            have k11 : gB 11 = .slice (some ⟨g, 0, none⟩) m cr := hgB 11 (by decide)
            have k12 : gB 12 = .slice (some ⟨g', 0, none⟩) m cs := hgB 12 (by decide)
            have k13 : gB 13 = gA 13 := hgB 13 (by decide)
            have k14 : gB 14 = .int .i64 (i) := hgB 14 (by decide)
            have k19 : gB 19 = gA 19 := hgB 19 (by decide)
            have k20 : gB 20 = gA 20 := hgB 20 (by decide)
            have k21 : gB 21 = gA 21 := hgB 21 (by decide)
            have k22 : gB 22 = gA 22 := hgB 22 (by decide)
            have k23 : gB 23 = gA 23 := hgB 23 (by decide)
            have k24 : gB 24 = gA 24 := hgB 24 (by decide)
            have k25 : gB 25 = gA 25 := hgB 25 (by decide)
            have k26 : gB 26 = gA 26 := hgB 26 (by decide)
            have k27 : gB 27 = gA 27 := hgB 27 (by decide)
            have k28 : gB 28 = gA 28 := hgB 28 (by decide)
            have k29 : gB 29 = gA 29 := hgB 29 (by decide)
            have k30 : gB 30 = gA 30 := hgB 30 (by decide)
            have k31 : gB 31 = gA 31 := hgB 31 (by decide)
            have k32 : gB 32 = gA 32 := hgB 32 (by decide)
            have k33 : gB 33 = gA 33 := hgB 33 (by decide)
            have k34 : gB 34 = gA 34 := hgB 34 (by decide)
            have k35 : gB 35 = gA 35 := hgB 35 (by decide)
            have k36 : gB 36 = gA 36 := hgB 36 (by decide)
            have k37 : gB 37 = gA 37 := hgB 37 (by decide)
            have k38 : gB 38 = gA 38 := hgB 38 (by decide)
            have k39 : gB 39 = gA 39 := hgB 39 (by decide)
            have k40 : gB 40 = gA 40 := hgB 40 (by decide)
            have k41 : gB 41 = gA 41 := hgB 41 (by decide)
            have k42 : gB 42 = gA 42 := hgB 42 (by decide)
            have k43 : gB 43 = gA 43 := hgB 43 (by decide)
            have k44 : gB 44 = gA 44 := hgB 44 (by decide)
            have k45 : gB 45 = gA 45 := hgB 45 (by decide)
            have k46 : gB 46 = gA 46 := hgB 46 (by decide)
            have k47 : gB 47 = gA 47 := hgB 47 (by decide)
            have k48 : gB 48 = gA 48 := hgB 48 (by decide)
            have k49 : gB 49 = gA 49 := hgB 49 (by decide)
            have k50 : gB 50 = gA 50 := hgB 50 (by decide)
            have k51 : gB 51 = gA 51 := hgB 51 (by decide)
            have k52 : gB 52 = gA 52 := hgB 52 (by decide)
            have k53 : gB 53 = gA 53 := hgB 53 (by decide)
            have k54 : gB 54 = gA 54 := hgB 54 (by decide)
            have k55 : gB 55 = gA 55 := hgB 55 (by decide)
            have k56 : gB 56 = gA 56 := hgB 56 (by decide)
            have k57 : gB 57 = gA 57 := hgB 57 (by decide)
            have k58 : gB 58 = gA 58 := hgB 58 (by decide)
            have k59 : gB 59 = gA 59 := hgB 59 (by decide)
            have k60 : gB 60 = gA 60 := hgB 60 (by decide)
            have k61 : gB 61 = gA 61 := hgB 61 (by decide)
            have k62 : gB 62 = gA 62 := hgB 62 (by decide)
            have k63 : gB 63 = gA 63 := hgB 63 (by decide)
            have k64 : gB 64 = gA 64 := hgB 64 (by decide)
            have k65 : gB 65 = gA 65 := hgB 65 (by decide)
            have k66 : gB 66 = .int .i64 (m) := hgB 66 (by decide)
            have k67 : gB 67 = .int .i64 (i) := hgB 67 (by decide)
            have k87 : gB 87 = .slice (some ⟨gp, 0, none⟩) q cp := hgB 87 (by decide)
            have k88 : gB 88 = .int .i64 (q) := hgB 88 (by decide)
            have k89 : gB 89 = .int .i64 0 := hgB 89 (by decide)
            rw [show ((List.range 116).map gB).toArray = #[gB 0, gB 1, gB 2, gB 3, gB 4, gB 5, gB 6, gB 7, gB 8, gB 9, gB 10, gB 11, gB 12, gB 13, gB 14, gB 15, gB 16, gB 17, gB 18, gB 19, gB 20, gB 21, gB 22, gB 23, gB 24, gB 25, gB 26, gB 27, gB 28, gB 29, gB 30, gB 31, gB 32, gB 33, gB 34, gB 35, gB 36, gB 37, gB 38, gB 39, gB 40, gB 41, gB 42, gB 43, gB 44, gB 45, gB 46, gB 47, gB 48, gB 49, gB 50, gB 51, gB 52, gB 53, gB 54, gB 55, gB 56, gB 57, gB 58, gB 59, gB 60, gB 61, gB 62, gB 63, gB 64, gB 65, gB 66, gB 67, gB 68, gB 69, gB 70, gB 71, gB 72, gB 73, gB 74, gB 75, gB 76, gB 77, gB 78, gB 79, gB 80, gB 81, gB 82, gB 83, gB 84, gB 85, gB 86, gB 87, gB 88, gB 89, gB 90, gB 91, gB 92, gB 93, gB 94, gB 95, gB 96, gB 97, gB 98, gB 99, gB 100, gB 101, gB 102, gB 103, gB 104, gB 105, gB 106, gB 107, gB 108, gB 109, gB 110, gB 111, gB 112, gB 113, gB 114, gB 115] from rfl]
            dsimp only
            rw [k0, k1, k2, k3, k4, k5, k7, k8, k9, k10, k11, k12, k13, k14, k19, k20, k21, k22, k23, k24, k25, k26, k27, k28, k29, k30, k31, k32, k33, k34, k35, k36, k37, k38, k39, k40, k41, k42, k43, k44, k45, k46, k47, k48, k49, k50, k51, k52, k53, k54, k55, k56, k57, k58, k59, k60, k61, k62, k63, k64, k65, k66, k67, k87, k88, k89]
            clear hgB k0 k1 k2 k3 k4 k5 k7 k8 k9 k10 k11 k12 k13 k14 k19 k20 k21 k22 k23 k24 k25 k26 k27 k28 k29 k30 k31 k32 k33 k34 k35 k36 k37 k38 k39 k40 k41 k42 k43 k44 k45 k46 k47 k48 k49 k50 k51 k52 k53 k54 k55 k56 k57 k58 k59 k60 k61 k62 k63 k64 k65 k66 k67 k87 k88 k89
            go_loopw [89] (fun s89 wr => ∃ k : Nat, k ≤ q ∧ s89 = .int .i64 k ∧ Hid (MvS W wr g g' b7 gp gq i q cq es2 es4 ps dx dy)) (fun s89 _ => q - (intOf s89).toNat)
            case atStart => exact ⟨0, Nat.zero_le _, rfl, HM⟩
            case round =>
              clear HM
              obtain ⟨k, hk, rfl, HM⟩ := hrel
              by_cases hlk : k < q
              · have hkl : k < ps.length := by rw [← HQ.out]; exact hlk
                have hq := List.getElem?_eq_getElem hkl
                have hi1 := HP1.out _ (List.getElem_mem hkl)
                have hq2 : (ps.map (·.sh dx dy))[k]? = some (ps[k].sh dx dy) := by rw [List.getElem?_map, hq]; rfl
                have hi2 := HP2.out _ (List.mem_of_getElem? hq2)
                obtain ⟨c0, c1⟩ := HM.out.p k _ hq
                generalize ps[k] = p at hq hi1 hq2 hi2 c0 c1
                have HQP := hid hq2
                have HIN := hid (And.intro hi1 hi2)
                clear hq hq2 hi1 hi2 hkl
                have HV16 := hid (Var.new wr (pcel p) 23 _ rfl)
                have HX := hid (below_alloc (Below.refl _ wr) (.cells (pcel p) 23))
                have HM3 := hid (HM.out.next HX.out)
                clear HX HM
                go_upto_region 21 with fail
                clear c0 c1
                generalize wr.alloc _ = w3 at HV16 HM3 ⊢
                generalize wr.heap.size = b16 at HV16 ⊢
                obtain ⟨q0, q1, q2, q3, q4, q5, qf⟩ := HM3.out.v.read6
                obtain ⟨z0, z1, zf⟩ := HV16.out.read2
                go_wp2_with fail
                clear q0 q1 q2 q3 q4 q5 qf z0 z1 zf HV16
                (with_reducible refine (apply_sh (p := p) HD.out HIN.out.1 HIN.out.2 _).mono ?_); rintro e w5 ⟨rfl, hb⟩
                have HX := hid (below_alloc (Below.refl _ w5) (.cells (pcel (p.sh dx dy)) 23))
                have HM6 := hid ((HM3.out.next hb).next HX.out)
                have HV17 := hid (Var.new w5 (pcel (p.sh dx dy)) 23 _ rfl)
                clear hb HX HM3
                go_upto_region 22 with fail
                generalize w5.alloc _ = w6 at HV17 HM6 ⊢
                generalize w5.heap.size = b17 at HV17 ⊢
                clear HIN w5 w3
                rename ∀ (a : Act) (w : World), Code.wp _ _ _ a w → (_ : Act → World → Prop) a w => hKn
                refine wp_region_fan 13 1000 (Over w6) (by kernel_rfl) (by kernel_rfl) (Over.start w6) ?_
                simp only [List.take_succ_cons, List.take_zero, List.drop_succ_cons, List.drop_zero]
                have L0 := fun b w1 (h : Over w6 b w1) => HV17.out.next h
                have L2 := fun b w1 (h : Over w6 b w1) => (Below.cell (p := ⟨g', i * 2, none⟩) h HM6.out.rm.1).trans HM6.out.c
                have L3 := fun b w1 (h : Over w6 b w1) => HM6.out.q.next HM6.out.lq h k _ HQP.out
                refine WalksE.sound _ _ _ _ ?_ (((((((((((((((((((((((((((((((((((((((((((((((((((((((((((((((((((((((((((((((((((((((((((Is.start _ (n := 116) rfl).pin 0 (v := gA 0) rfl).pin 1 (v := gA 1) rfl).pin 2 (v := gA 2) rfl).pin 3 (v := gA 3) rfl).pin 4 (v := gA 4) rfl).pin 5 (v := gA 5) rfl).pin 7 (v := .pointer (some ⟨b7, 0, none⟩)) rfl).pin 8 (v := gA 8) rfl).pin 9 (v := gA 9) rfl).pin 10 (v := gA 10) rfl).pin 11 (v := .slice (some ⟨g, 0, none⟩) m cr) rfl).pin 12 (v := .slice (some ⟨g', 0, none⟩) m cs) rfl).pin 13 (v := gA 13) rfl).pin 14 (v := .int .i64 (i)) rfl).pin 15 (v := .int .i64 (k)) rfl).pin 16 (v := .pointer (some ⟨b16, 0, none⟩)) rfl).pin 17 (v := .pointer (some ⟨b17, 0, none⟩)) rfl).pin 18 (v := .int .i64 0) rfl).pin 19 (v := gA 19) rfl).pin 20 (v := gA 20) rfl).pin 21 (v := gA 21) rfl).pin 22 (v := gA 22) rfl).pin 23 (v := gA 23) rfl).pin 24 (v := gA 24) rfl).pin 25 (v := gA 25) rfl).pin 26 (v := gA 26) rfl).pin 27 (v := gA 27) rfl).pin 28 (v := gA 28) rfl).pin 29 (v := gA 29) rfl).pin 30 (v := gA 30) rfl).pin 31 (v := gA 31) rfl).pin 32 (v := gA 32) rfl).pin 33 (v := gA 33) rfl).pin 34 (v := gA 34) rfl).pin 35 (v := gA 35) rfl).pin 36 (v := gA 36) rfl).pin 37 (v := gA 37) rfl).pin 38 (v := gA 38) rfl).pin 39 (v := gA 39) rfl).pin 40 (v := gA 40) rfl).pin 41 (v := gA 41) rfl).pin 42 (v := gA 42) rfl).pin 43 (v := gA 43) rfl).pin 44 (v := gA 44) rfl).pin 45 (v := gA 45) rfl).pin 46 (v := gA 46) rfl).pin 47 (v := gA 47) rfl).pin 48 (v := gA 48) rfl).pin 49 (v := gA 49) rfl).pin 50 (v := gA 50) rfl).pin 51 (v := gA 51) rfl).pin 52 (v := gA 52) rfl).pin 53 (v := gA 53) rfl).pin 54 (v := gA 54) rfl).pin 55 (v := gA 55) rfl).pin 56 (v := gA 56) rfl).pin 57 (v := gA 57) rfl).pin 58 (v := gA 58) rfl).pin 59 (v := gA 59) rfl).pin 60 (v := gA 60) rfl).pin 61 (v := gA 61) rfl).pin 62 (v := gA 62) rfl).pin 63 (v := gA 63) rfl).pin 64 (v := gA 64) rfl).pin 65 (v := gA 65) rfl).pin 66 (v := .int .i64 (m)) rfl).pin 67 (v := .int .i64 (i)) rfl).pin 68 (v := gB 68) rfl).pin 69 (v := gB 69) rfl).pin 70 (v := gB 70) rfl).pin 71 (v := gB 71) rfl).pin 72 (v := gB 72) rfl).pin 73 (v := gB 73) rfl).pin 74 (v := gB 74) rfl).pin 75 (v := gB 75) rfl).pin 76 (v := gB 76) rfl).pin 77 (v := gB 77) rfl).pin 78 (v := gB 78) rfl).pin 79 (v := gB 79) rfl).pin 80 (v := gB 80) rfl).pin 81 (v := gB 81) rfl).pin 82 (v := gB 82) rfl).pin 83 (v := gB 83) rfl).pin 84 (v := gB 84) rfl).pin 85 (v := gB 85) rfl).pin 86 (v := gB 86) rfl).pin 87 (v := .slice (some ⟨gp, 0, none⟩) q cp) rfl).pin 88 (v := .int .i64 (q)) rfl).pin 89 (v := .int .i64 (k)) rfl).pin 115 (v := gB 115) rfl)
                generalize (fun i => Array.getD _ i undef) = gfn
                refine walks_with fun KQ hKQ => ?_
                (refine walks_one fun K hK => ?_); refine st_pure rfl rfl (fun _ => rfl) ?_; refine hK _ ?_; clear hK K
                (refine walks_one fun K hK => ?_); refine st_pure (v := .bool false) rfl rfl (fun _ => run_neE rfl rfl) ?_; refine hK _ ?_; clear hK K
                (refine walks_one fun K hK => ?_); refine st_pure rfl rfl (fun _ => rfl) ?_; refine hK _ ?_; clear hK K
                (refine walks_one fun K hK => ?_); refine st_read rfl rfl (fun _ _ h => run_loadPt rfl (L0 _ _ h)) ?_; refine hK _ ?_; clear hK K
                (refine walks_one fun K hK => ?_); refine st_pure rfl rfl (fun _ => rfl) ?_; refine hK _ ?_; clear hK K
                (refine walks_one fun K hK => ?_); refine st_pure rfl rfl (fun _ => rfl) ?_; refine hK _ ?_; clear hK K
                (refine walks_one fun K hK => ?_); refine st_pure (v := .pointer (some ⟨g', i * 2, none⟩)) rfl rfl (fun _ => (run_indexLn (a := ⟨g', 0, none⟩) (j := i) rfl rfl (by omega) (by omega)).trans (by rw [addr0, Int.toNat_natCast])) ?_; refine hK _ ?_; clear hK K
                (refine walks_one fun K hK => ?_); refine st_pure rfl rfl (fun _ => run_fld_line0 rfl) ?_; refine hK _ ?_; clear hK K
                (refine walks_one fun K hK => ?_); refine st_read rfl rfl (fun _ _ h => run_loadSl rfl (L2 _ _ h)) ?_; refine hK _ ?_; clear hK K
                (refine walks_one fun K hK => ?_); refine st_pure rfl rfl (fun _ => rfl) ?_; refine hK _ ?_; clear hK K
                (refine walks_one fun K hK => ?_); refine st_pure (v := .pointer (some ⟨gq, k * 2, none⟩)) rfl rfl (fun _ => (run_indexPt (a := ⟨gq, 0, none⟩) (j := k) rfl rfl (by omega) (by omega)).trans (by rw [addr0, Int.toNat_natCast])) ?_; refine hK _ ?_; clear hK K
                (refine walks_one fun K hK => ?_); refine st_read rfl rfl (fun _ _ h => run_ptRow (p := p.sh dx dy) rfl (L3 _ _ h).1 (L3 _ _ h).2) ?_; refine hK _ ?_; clear hK K
                (refine walks_one fun K hK => ?_); refine st_pure (v := .bool false) rfl rfl (fun _ => run_nePtV rfl rfl) ?_; refine hK _ ?_; clear hK K
                refine walks_end fun a9 ha9 => hKQ _ fun w1 hC => ?_
                refine sq_val (v := .bool false) ha9 rfl rfl fun a10 ha10 => ?_
                refine wpList_nil ?_
                refine hKn _ _ ?_
                obtain ⟨g9, hg9, k0, k1, k2, k3, k4, k5, k7, k8, k9, k10, k11, k12, k13, k14, k19, k20, k21, k22, k23, k24, k25, k26, k27, k28, k29, k30, k31, k32, k33, k34, k35, k36, k37, k38, k39, k40, k41, k42, k43, k44, k45, k46, k47, k48, k49, k50, k51, k52, k53, k54, k55, k56, k57, k58, k59, k60, k61, k62, k63, k64, k65, k66, k67, k68, k69, k70, k71, k72, k73, k74, k75, k76, k77, k78, k79, k80, k81, k82, k83, k84, k85, k86, k87, k88, k89, k115, k113⟩ : ∃ g9, Is a10 116 g9 ∧ g9 0 = gA 0 ∧ g9 1 = gA 1 ∧ g9 2 = gA 2 ∧ g9 3 = gA 3 ∧ g9 4 = gA 4 ∧ g9 5 = gA 5 ∧ g9 7 = .pointer (some ⟨b7, 0, none⟩) ∧ g9 8 = gA 8 ∧ g9 9 = gA 9 ∧ g9 10 = gA 10 ∧ g9 11 = .slice (some ⟨g, 0, none⟩) m cr ∧ g9 12 = .slice (some ⟨g', 0, none⟩) m cs ∧ g9 13 = gA 13 ∧ g9 14 = .int .i64 (i) ∧ g9 19 = gA 19 ∧ g9 20 = gA 20 ∧ g9 21 = gA 21 ∧ g9 22 = gA 22 ∧ g9 23 = gA 23 ∧ g9 24 = gA 24 ∧ g9 25 = gA 25 ∧ g9 26 = gA 26 ∧ g9 27 = gA 27 ∧ g9 28 = gA 28 ∧ g9 29 = gA 29 ∧ g9 30 = gA 30 ∧ g9 31 = gA 31 ∧ g9 32 = gA 32 ∧ g9 33 = gA 33 ∧ g9 34 = gA 34 ∧ g9 35 = gA 35 ∧ g9 36 = gA 36 ∧ g9 37 = gA 37 ∧ g9 38 = gA 38 ∧ g9 39 = gA 39 ∧ g9 40 = gA 40 ∧ g9 41 = gA 41 ∧ g9 42 = gA 42 ∧ g9 43 = gA 43 ∧ g9 44 = gA 44 ∧ g9 45 = gA 45 ∧ g9 46 = gA 46 ∧ g9 47 = gA 47 ∧ g9 48 = gA 48 ∧ g9 49 = gA 49 ∧ g9 50 = gA 50 ∧ g9 51 = gA 51 ∧ g9 52 = gA 52 ∧ g9 53 = gA 53 ∧ g9 54 = gA 54 ∧ g9 55 = gA 55 ∧ g9 56 = gA 56 ∧ g9 57 = gA 57 ∧ g9 58 = gA 58 ∧ g9 59 = gA 59 ∧ g9 60 = gA 60 ∧ g9 61 = gA 61 ∧ g9 62 = gA 62 ∧ g9 63 = gA 63 ∧ g9 64 = gA 64 ∧ g9 65 = gA 65 ∧ g9 66 = .int .i64 (m) ∧ g9 67 = .int .i64 (i) ∧ g9 68 = gB 68 ∧ g9 69 = gB 69 ∧ g9 70 = gB 70 ∧ g9 71 = gB 71 ∧ g9 72 = gB 72 ∧ g9 73 = gB 73 ∧ g9 74 = gB 74 ∧ g9 75 = gB 75 ∧ g9 76 = gB 76 ∧ g9 77 = gB 77 ∧ g9 78 = gB 78 ∧ g9 79 = gB 79 ∧ g9 80 = gB 80 ∧ g9 81 = gB 81 ∧ g9 82 = gB 82 ∧ g9 83 = gB 83 ∧ g9 84 = gB 84 ∧ g9 85 = gB 85 ∧ g9 86 = gB 86 ∧ g9 87 = .slice (some ⟨gp, 0, none⟩) q cp ∧ g9 88 = .int .i64 (q) ∧ g9 89 = .int .i64 (k) ∧ g9 115 = gB 115 ∧ g9 113 = .bool false := ⟨_, ha10, rfl, rfl, rfl, rfl, rfl, rfl, rfl, rfl, rfl, rfl, rfl, rfl, rfl, rfl, rfl, rfl, rfl, rfl, rfl, rfl, rfl, rfl, rfl, rfl, rfl, rfl, rfl, rfl, rfl, rfl, rfl, rfl, rfl, rfl, rfl, rfl, rfl, rfl, rfl, rfl, rfl, rfl, rfl, rfl, rfl, rfl, rfl, rfl, rfl, rfl, rfl, rfl, rfl, rfl, rfl, rfl, rfl, rfl, rfl, rfl, rfl, rfl, rfl, rfl, rfl, rfl, rfl, rfl, rfl, rfl, rfl, rfl, rfl, rfl, rfl, rfl, rfl, rfl, rfl, rfl, rfl, rfl, rfl, rfl, rfl, rfl, rfl⟩
                have hw := hg9.whole
                rw [show ((List.range 116).map g9).toArray = #[g9 0, g9 1, g9 2, g9 3, g9 4, g9 5, g9 6, g9 7, g9 8, g9 9, g9 10, g9 11, g9 12, g9 13, g9 14, g9 15, g9 16, g9 17, g9 18, g9 19, g9 20, g9 21, g9 22, g9 23, g9 24, g9 25, g9 26, g9 27, g9 28, g9 29, g9 30, g9 31, g9 32, g9 33, g9 34, g9 35, g9 36, g9 37, g9 38, g9 39, g9 40, g9 41, g9 42, g9 43, g9 44, g9 45, g9 46, g9 47, g9 48, g9 49, g9 50, g9 51, g9 52, g9 53, g9 54, g9 55, g9 56, g9 57, g9 58, g9 59, g9 60, g9 61, g9 62, g9 63, g9 64, g9 65, g9 66, g9 67, g9 68, g9 69, g9 70, g9 71, g9 72, g9 73, g9 74, g9 75, g9 76, g9 77, g9 78, g9 79, g9 80, g9 81, g9 82, g9 83, g9 84, g9 85, g9 86, g9 87, g9 88, g9 89, g9 90, g9 91, g9 92, g9 93, g9 94, g9 95, g9 96, g9 97, g9 98, g9 99, g9 100, g9 101, g9 102, g9 103, g9 104, g9 105, g9 106, g9 107, g9 108, g9 109, g9 110, g9 111, g9 112, g9 113, g9 114, g9 115] from rfl] at hw
                dsimp only at hw
                rw [k0, k1, k2, k3, k4, k5, k7, k8, k9, k10, k11, k12, k13, k14, k19, k20, k21, k22, k23, k24, k25, k26, k27, k28, k29, k30, k31, k32, k33, k34, k35, k36, k37, k38, k39, k40, k41, k42, k43, k44, k45, k46, k47, k48, k49, k50, k51, k52, k53, k54, k55, k56, k57, k58, k59, k60, k61, k62, k63, k64, k65, k66, k67, k68, k69, k70, k71, k72, k73, k74, k75, k76, k77, k78, k79, k80, k81, k82, k83, k84, k85, k86, k87, k88, k89, k115, k113] at hw
                subst hw
                clear hg9 k0 k1 k2 k3 k4 k5 k7 k8 k9 k10 k11 k12 k13 k14 k19 k20 k21 k22 k23 k24 k25 k26 k27 k28 k29 k30 k31 k32 k33 k34 k35 k36 k37 k38 k39 k40 k41 k42 k43 k44 k45 k46 k47 k48 k49 k50 k51 k52 k53 k54 k55 k56 k57 k58 k59 k60 k61 k62 k63 k64 k65 k66 k67 k68 k69 k70 k71 k72 k73 k74 k75 k76 k77 k78 k79 k80 k81 k82 k83 k84 k85 k86 k87 k88 k89 k115 k113
                have HM1 := hid (HM6.out.next hC)
                clear ha9 ha10 hC hKQ KQ hKn L0 L2 L3 HV17 HM6 HQP
                go_wp2_with fail
                go_roundw
                case rel => exact ⟨k + 1, by omega, by go_num, HM1⟩
                case measure => simp [intOf]; omega
              · go_wp2_with fail
                go_roundw
                case rel => exact ⟨i + 1, by omega, by go_num, hid HM.out.rl, hid HM.out.rm, hid HM.out.v, hid HM.out.b⟩
                case measure => simp [intOf]; omega
          · go_wp2_with fail
            go_ret
            exact ⟨rfl, HB.out⟩
  · have HN1 := HN
    have HS1 := HS0
    clear HS0
    have HLT := hid hlt
    have hltb : decide ((12 : Int) < (n : Int)) = false := decide_eq_false (by have := HLT.out; omega)
    clear hlt
    go_upto_region 5 with fail
    clear hltb HLT
    go_wp2_with fail
    (with_reducible refine (cut_in x1 (-3000) 3000 _ (by omega) (by omega) (by omega) (by omega)).mono ?_); rintro e w2 ⟨dx, d1, d2, rfl, rfl⟩
    go_wp2_with fail
    (with_reducible refine (cut_in x2 (-3000) 3000 _ (by omega) (by omega) (by omega) (by omega)).mono ?_); rintro e w2 ⟨dy, d3, d4, rfl, rfl⟩
    have HD := hid (show Sml dx dy from ⟨⟨d1, d2⟩, ⟨d3, d4⟩⟩)
    clear d1 d2 d3 d4
    go_wp2_with fail
    (with_reducible refine (shift_sml dx dy _ HD.out).mono ?_); rintro e w2 ⟨rfl, hb⟩
    have HX := hid (below_alloc (Below.refl _ w2) (.cells (P41 dx dy) 48))
    have HB2 := hid (below_next (below_next HB.out hb) HX.out)
    have HS2 := hid ((HS1.out.next hb).next HX.out)
    have HV7 := hid (Var.new w2 (P41 dx dy) 48 _ rfl)
    clear hb HX HB HS1
    go_upto_region 6 with fail
    generalize w2.alloc _ = w3 at HV7 HB2 HS2 ⊢
    generalize w2.heap.size = b7 at HV7 ⊢
    clear w2
    obtain ⟨q0, q1, q2, q3, q4, q5, qf⟩ := HV7.out.read6
    go_wp2_with fail
    clear q0 q1 q2 q3 q4 q5 qf
    (with_reducible refine (map_sh A ss n c dx dy _ HN1.out HS2.out).mono ?_); rintro e w6 ⟨⟨A2, n2, c2, rfl, hn2, hs2⟩, hb⟩
    have HB6 := hid (below_next HB2.out hb)
    have HV6 := hid (HV7.out.next hb)
    have HS6 := hid (HS2.out.next hb)
    clear hb HB2 HV7 HS2
    have hbad : mE (shm dx dy) ss ≠ 0 ∨ chk ss = 0 ∧ mE (shm dx dy) ss = 0 ∧ mS (shm dx dy) ss = ss.map (sh dx dy) ∧ chk (ss.map (sh dx dy)) = 0 := by
      by_cases hok : chk ss = 0
      · rcases moved HD.out hok with ⟨e1, e2, e3⟩ | hE
        · exact .inr ⟨hok, e1, e2, e3⟩
        · exact .inl hE
      · exact .inl (moved_bad hok)
    rcases hbad with hE | ⟨hok, e1, e2, e3⟩
    · have hne : (mE (shm dx dy) ss != 0) = true := by simp [hE]
      clear hE hn2 hs2 HS6 HV6 HD
      generalize mE (shm dx dy) ss = r at hne ⊢
      go_wp2_with fail
      go_ret
      exact ⟨rfl, HB6.out⟩
    · rw [e1]
      rw [e2] at hn2 hs2
      have HF1 := fun w (h1 : Segs w A ss) => hid (flatten_good A ss n c w HN1.out h1 hok)
      have HF2 := fun w (h1 : Segs w A2 (ss.map (sh dx dy))) => hid (flatten_good A2 (ss.map (sh dx dy)) n2 c2 w hn2 h1 e3)
      rw [flatL_sh' hok] at HF2
      have HLL := hid (flat_lenV hok)
      have HI1 := hid (flat_in' hok)
      have hi2 := flat_in' e3
      rw [flatL_sh' hok] at hi2
      have HI2 := hid hi2
      have HS7 := hid hs2
      clear hi2 hok e1 e2 e3 hn2 hs2
      generalize flatL ss = LS at HF1 HF2 HLL HI1 HI2
      go_wp2_with fail
      (with_reducible refine (HF1 _ HS6.out).out.mono ?_); rintro e w7 ⟨v2, es2, rfl, ho2, he2, hb⟩
      have HB7 := hid (below_next HB6.out hb)
      have HV7 := hid (HV6.out.next hb)
      have HS8 := hid (HS7.out.next hb)
      have HO2 := hid ho2
      have HE2 := hid he2
      clear hb ho2 he2 HB6 HV6 HS6 HS7 HF1
      go_wp2_with fail
      (with_reducible refine (HF2 _ HS8.out).out.mono ?_); rintro e w8 ⟨v4, es4, rfl, ho4, he4, hb⟩
      have HB8 := hid (below_next HB7.out hb)
      have HV8 := hid (HV7.out.next hb)
      have HE4 := hid he4
      obtain ⟨Ar, cr, hv2, hr2⟩ := (HO2.out.next hb).rowV
      obtain ⟨As, cs, hv4, hr4⟩ := ho4.rowV
      have HMM := hid (show es4.length = es2.length by have := congrArg List.length HE4.out; have := congrArg List.length HE2.out; simp at *; omega)
      rw [HMM.out] at hv4 hr4
      have hle : es2.length ≤ 1000 := by have := congrArg List.length HE2.out; have := HLL.out.1; simp at *; omega
      clear hb ho4 he4 HB7 HV7 HS8 HO2 HF2
      subst hv2 hv4
      rcases Nat.eq_zero_or_pos es2.length with hm0 | hm0
      · rw [hm0]
        clear HE2 HE4 HLL hr2 hr4 HMM hle hm0 HI1 HI2 HV8 HD
        go_wp2_with fail
        go_loopw [67] (fun s67 wr => s67 = .int .i64 0 ∧ Hid (Below W.heap.size W wr)) (fun s67 _ => 0)
        case atStart => exact ⟨rfl, HB8⟩
        case round =>
          obtain ⟨rfl, HB⟩ := hrel
          go_wp2_with fail
          go_ret
          exact ⟨rfl, HB.out⟩
      · obtain ⟨g, rfl, hrl⟩ := hr2 hm0
        obtain ⟨g', rfl, hrm⟩ := hr4 hm0
        have HRL := hid hrl
        have HRM := hid hrm
        have HEE := hid (HE4.out.trans (congrArg (List.map (shLn dx dy)) HE2.out.symm))
        have HLN := hid (fun e (he : e ∈ es2) => HLL.out.2 e.2 (by rw [← HE2.out]; exact List.mem_map.2 ⟨e, he, rfl⟩))
        have HJ1 := hid (fun e (he : e ∈ es2) => HI1.out e.2 (by rw [← HE2.out]; exact List.mem_map.2 ⟨e, he, rfl⟩))
        have HJ2 := hid (fun e (he : e ∈ es4) => HI2.out e.2 (by rw [← HE4.out]; exact List.mem_map.2 ⟨e, he, rfl⟩))
        clear HE2 HE4 HLL HI1 HI2 hrl hrm hr2 hr4
        obtain ⟨m, hm⟩ : ∃ m, m = es2.length := ⟨_, rfl⟩
        have HMQ := hid hm
        rw [← hm] at hm0 hle
        rw [← hm] at HMM
        rw [← hm]
        clear hm
        have hmm : ((m : Int) != (m : Int)) = false := by simp
        go_wp2_with fail
        refine wp_frameV (n := 116) rfl fun gA hgA => ?_
        have k7 : gA 7 = .pointer (some ⟨b7, 0, none⟩) := hgA 7 (by decide)
        have k11 : gA 11 = .slice (some ⟨g, 0, none⟩) m cr := hgA 11 (by decide)
        have k12 : gA 12 = .slice (some ⟨g', 0, none⟩) m cs := hgA 12 (by decide)
        have k66 : gA 66 = .int .i64 (m) := hgA 66 (by decide)
        have k67 : gA 67 = .int .i64 0 := hgA 67 (by decide)
        rw [show ((List.range 116).map gA).toArray = #[gA 0, gA 1, gA 2, gA 3, gA 4, gA 5, gA 6, gA 7, gA 8, gA 9, gA 10, gA 11, gA 12, gA 13, gA 14, gA 15, gA 16, gA 17, gA 18, gA 19, gA 20, gA 21, gA 22, gA 23, gA 24, gA 25, gA 26, gA 27, gA 28, gA 29, gA 30, gA 31, gA 32, gA 33, gA 34, gA 35, gA 36, gA 37, gA 38, gA 39, gA 40, gA 41, gA 42, gA 43, gA 44, gA 45, gA 46, gA 47, gA 48, gA 49, gA 50, gA 51, gA 52, gA 53, gA 54, gA 55, gA 56, gA 57, gA 58, gA 59, gA 60, gA 61, gA 62, gA 63, gA 64, gA 65, gA 66, gA 67, gA 68, gA 69, gA 70, gA 71, gA 72, gA 73, gA 74, gA 75, gA 76, gA 77, gA 78, gA 79, gA 80, gA 81, gA 82, gA 83, gA 84, gA 85, gA 86, gA 87, gA 88, gA 89, gA 90, gA 91, gA 92, gA 93, gA 94, gA 95, gA 96, gA 97, gA 98, gA 99, gA 100, gA 101, gA 102, gA 103, gA 104, gA 105, gA 106, gA 107, gA 108, gA 109, gA 110, gA 111, gA 112, gA 113, gA 114, gA 115] from rfl]
        dsimp only
        rw [k7, k11, k12, k66, k67]
        clear hgA k7 k11 k12 k66 k67
        clear hmm
        go_loopw [67] (fun s67 wr => ∃ i : Nat, i ≤ m ∧ s67 = .int .i64 i ∧ Hid (RowV wr g es2) ∧ Hid (RowV wr g' es4) ∧ Hid (Var wr b7 (P41 dx dy) 48) ∧ Hid (Below W.heap.size W wr)) (fun s67 _ => m - (intOf s67).toNat)
        case atStart => exact ⟨0, Nat.zero_le _, rfl, HRL, HRM, HV8, HB8⟩
        case round =>
          clear HRL HRM HV8 HB8
          obtain ⟨i, hi, rfl, HRL, HRM, HV, HB⟩ := hrel
          by_cases hlt : i < m
          · have hkl : i < es2.length := by rw [← HMQ.out]; exact hlt
            have hkl' : i < es4.length := by rw [HMM.out]; exact hlt
            have hq := List.getElem?_eq_getElem hkl
            have hq' := List.getElem?_eq_getElem hkl'
            have hsame : es4[i].2 = shLn dx dy es2[i].2 := by
              have := congrArg (fun l => l[i]?) HEE.out
              simpa [hq, hq'] using this
            obtain ⟨hc0, -, gp, cp, hv, hgp, hrp⟩ := HRL.out.2 i _ hq
            obtain ⟨hd0, -, gq, cq, hv', hgq, hrq⟩ := HRM.out.2 i _ hq'
            have hg := HRL.out.1
            have hg' := HRM.out.1
            have hm1 := HLN.out _ (List.getElem_mem hkl)
            have hj1 := HJ1.out _ (List.getElem_mem hkl)
            have hj2 := HJ2.out _ (List.getElem_mem hkl')
            rw [hsame] at hv' hrq hj2
            rw [hv] at hc0
            rw [hv'] at hd0
            obtain ⟨ps, hps⟩ : ∃ ps, ps = (es2[i]).2.ps := ⟨_, rfl⟩
            obtain ⟨q, hQ⟩ : ∃ q, q = ps.length := ⟨_, rfl⟩
            rw [show (shLn dx dy es2[i].2).ps.length = q by rw [hQ, hps]; simp [shLn]] at hd0
            rw [show (es2[i]).2.ps.length = q by rw [hQ, hps]] at hc0 hm1
            rw [← hps] at hrp hj1
            have hrq2 : Row2 wr gq (ps.map (·.sh dx dy)) := by rw [hps]; exact hrq
            have hj3 : ∀ p ∈ ps.map (·.sh dx dy), In3 p := by rw [hps]; exact hj2
            have HQ := hid hQ
            have HR1 := hid hrp
            have HR2 := hid hrq2
            have HP1 := hid hj1
            have HP2 := hid hj3
            have HZ1 := hid hgp
            have HZ2 := hid hgq
            clear hv hv' hsame hq hq' hrp hrq hrq2 hj1 hj2 hj3 hps hQ hkl hkl' hgp hgq
            go_upto_region 16 with fail
            rename ∀ (a : Act) (w : World), Code.wp _ _ _ a w → (_ : Act → World → Prop) a w => hKn
            refine wp_region_fan 12 1000 (Over wr) (by kernel_rfl) (by kernel_rfl) (Over.start wr) ?_
            simp only [List.take_succ_cons, List.take_zero, List.drop_succ_cons, List.drop_zero]
            have L1 := fun b w1 (h : Over wr b w1) => (Below.cell (p := ⟨g, i * 2, none⟩) h hg).trans hc0
            have L2 := fun b w1 (h : Over wr b w1) => (Below.cell (p := ⟨g', i * 2, none⟩) h hg').trans hd0
            refine WalksE.sound _ _ _ _ ?_ ((((((((((((((((((((((((((((((((((((((((((((((((((((((((((((((((Is.start _ (n := 116) rfl).pin 0 (v := gA 0) rfl).pin 1 (v := gA 1) rfl).pin 2 (v := gA 2) rfl).pin 3 (v := gA 3) rfl).pin 4 (v := gA 4) rfl).pin 5 (v := gA 5) rfl).pin 7 (v := .pointer (some ⟨b7, 0, none⟩)) rfl).pin 8 (v := gA 8) rfl).pin 9 (v := gA 9) rfl).pin 10 (v := gA 10) rfl).pin 11 (v := .slice (some ⟨g, 0, none⟩) m cr) rfl).pin 12 (v := .slice (some ⟨g', 0, none⟩) m cs) rfl).pin 13 (v := gA 13) rfl).pin 14 (v := .int .i64 (i)) rfl).pin 19 (v := gA 19) rfl).pin 20 (v := gA 20) rfl).pin 21 (v := gA 21) rfl).pin 22 (v := gA 22) rfl).pin 23 (v := gA 23) rfl).pin 24 (v := gA 24) rfl).pin 25 (v := gA 25) rfl).pin 26 (v := gA 26) rfl).pin 27 (v := gA 27) rfl).pin 28 (v := gA 28) rfl).pin 29 (v := gA 29) rfl).pin 30 (v := gA 30) rfl).pin 31 (v := gA 31) rfl).pin 32 (v := gA 32) rfl).pin 33 (v := gA 33) rfl).pin 34 (v := gA 34) rfl).pin 35 (v := gA 35) rfl).pin 36 (v := gA 36) rfl).pin 37 (v := gA 37) rfl).pin 38 (v := gA 38) rfl).pin 39 (v := gA 39) rfl).pin 40 (v := gA 40) rfl).pin 41 (v := gA 41) rfl).pin 42 (v := gA 42) rfl).pin 43 (v := gA 43) rfl).pin 44 (v := gA 44) rfl).pin 45 (v := gA 45) rfl).pin 46 (v := gA 46) rfl).pin 47 (v := gA 47) rfl).pin 48 (v := gA 48) rfl).pin 49 (v := gA 49) rfl).pin 50 (v := gA 50) rfl).pin 51 (v := gA 51) rfl).pin 52 (v := gA 52) rfl).pin 53 (v := gA 53) rfl).pin 54 (v := gA 54) rfl).pin 55 (v := gA 55) rfl).pin 56 (v := gA 56) rfl).pin 57 (v := gA 57) rfl).pin 58 (v := gA 58) rfl).pin 59 (v := gA 59) rfl).pin 60 (v := gA 60) rfl).pin 61 (v := gA 61) rfl).pin 62 (v := gA 62) rfl).pin 63 (v := gA 63) rfl).pin 64 (v := gA 64) rfl).pin 65 (v := gA 65) rfl).pin 66 (v := .int .i64 (m)) rfl).pin 67 (v := .int .i64 (i)) rfl)
            generalize (fun i => Array.getD _ i undef) = gfn
            refine walks_with fun KQ hKQ => ?_
            (refine walks_one fun K hK => ?_); refine st_pure rfl rfl (fun _ => rfl) ?_; refine hK _ ?_; clear hK K
            (refine walks_one fun K hK => ?_); refine st_pure rfl rfl (fun _ => rfl) ?_; refine hK _ ?_; clear hK K
            (refine walks_one fun K hK => ?_); refine st_pure (v := .pointer (some ⟨g, i * 2, none⟩)) rfl rfl (fun _ => (run_indexLn (a := ⟨g, 0, none⟩) (j := i) rfl rfl (by omega) (by omega)).trans (by rw [addr0, Int.toNat_natCast])) ?_; refine hK _ ?_; clear hK K
            (refine walks_one fun K hK => ?_); refine st_pure rfl rfl (fun _ => run_fld_line0 rfl) ?_; refine hK _ ?_; clear hK K
            (refine walks_one fun K hK => ?_); refine st_read rfl rfl (fun _ _ h => run_loadSl rfl (L1 _ _ h)) ?_; refine hK _ ?_; clear hK K
            (refine walks_one fun K hK => ?_); refine st_pure rfl rfl (fun _ => run_lenP rfl) ?_; refine hK _ ?_; clear hK K
            (refine walks_one fun K hK => ?_); refine st_pure rfl rfl (fun _ => rfl) ?_; refine hK _ ?_; clear hK K
            (refine walks_one fun K hK => ?_); refine st_pure rfl rfl (fun _ => rfl) ?_; refine hK _ ?_; clear hK K
            (refine walks_one fun K hK => ?_); refine st_pure (v := .pointer (some ⟨g', i * 2, none⟩)) rfl rfl (fun _ => (run_indexLn (a := ⟨g', 0, none⟩) (j := i) rfl rfl (by omega) (by omega)).trans (by rw [addr0, Int.toNat_natCast])) ?_; refine hK _ ?_; clear hK K
            (refine walks_one fun K hK => ?_); refine st_pure rfl rfl (fun _ => run_fld_line0 rfl) ?_; refine hK _ ?_; clear hK K
            (refine walks_one fun K hK => ?_); refine st_read rfl rfl (fun _ _ h => run_loadSl rfl (L2 _ _ h)) ?_; refine hK _ ?_; clear hK K
            (refine walks_one fun K hK => ?_); refine st_pure rfl rfl (fun _ => run_lenP rfl) ?_; refine hK _ ?_; clear hK K
            refine walks_end fun a9 ha9 => hKQ _ fun w1 hC => ?_
            refine sq_val (v := .bool false) ha9 rfl (run_neN (i := q) rfl rfl) fun a10 ha10 => ?_
            refine wpList_nil ?_
            refine hKn _ _ ?_
            obtain ⟨g9, hg9, k0, k1, k2, k3, k4, k5, k7, k8, k9, k10, k11, k12, k13, k14, k19, k20, k21, k22, k23, k24, k25, k26, k27, k28, k29, k30, k31, k32, k33, k34, k35, k36, k37, k38, k39, k40, k41, k42, k43, k44, k45, k46, k47, k48, k49, k50, k51, k52, k53, k54, k55, k56, k57, k58, k59, k60, k61, k62, k63, k64, k65, k66, k67, k82⟩ : ∃ g9, Is a10 116 g9 ∧ g9 0 = gA 0 ∧ g9 1 = gA 1 ∧ g9 2 = gA 2 ∧ g9 3 = gA 3 ∧ g9 4 = gA 4 ∧ g9 5 = gA 5 ∧ g9 7 = .pointer (some ⟨b7, 0, none⟩) ∧ g9 8 = gA 8 ∧ g9 9 = gA 9 ∧ g9 10 = gA 10 ∧ g9 11 = .slice (some ⟨g, 0, none⟩) m cr ∧ g9 12 = .slice (some ⟨g', 0, none⟩) m cs ∧ g9 13 = gA 13 ∧ g9 14 = .int .i64 (i) ∧ g9 19 = gA 19 ∧ g9 20 = gA 20 ∧ g9 21 = gA 21 ∧ g9 22 = gA 22 ∧ g9 23 = gA 23 ∧ g9 24 = gA 24 ∧ g9 25 = gA 25 ∧ g9 26 = gA 26 ∧ g9 27 = gA 27 ∧ g9 28 = gA 28 ∧ g9 29 = gA 29 ∧ g9 30 = gA 30 ∧ g9 31 = gA 31 ∧ g9 32 = gA 32 ∧ g9 33 = gA 33 ∧ g9 34 = gA 34 ∧ g9 35 = gA 35 ∧ g9 36 = gA 36 ∧ g9 37 = gA 37 ∧ g9 38 = gA 38 ∧ g9 39 = gA 39 ∧ g9 40 = gA 40 ∧ g9 41 = gA 41 ∧ g9 42 = gA 42 ∧ g9 43 = gA 43 ∧ g9 44 = gA 44 ∧ g9 45 = gA 45 ∧ g9 46 = gA 46 ∧ g9 47 = gA 47 ∧ g9 48 = gA 48 ∧ g9 49 = gA 49 ∧ g9 50 = gA 50 ∧ g9 51 = gA 51 ∧ g9 52 = gA 52 ∧ g9 53 = gA 53 ∧ g9 54 = gA 54 ∧ g9 55 = gA 55 ∧ g9 56 = gA 56 ∧ g9 57 = gA 57 ∧ g9 58 = gA 58 ∧ g9 59 = gA 59 ∧ g9 60 = gA 60 ∧ g9 61 = gA 61 ∧ g9 62 = gA 62 ∧ g9 63 = gA 63 ∧ g9 64 = gA 64 ∧ g9 65 = gA 65 ∧ g9 66 = .int .i64 (m) ∧ g9 67 = .int .i64 (i) ∧ g9 82 = .bool false := ⟨_, ha10, rfl, rfl, rfl, rfl, rfl, rfl, rfl, rfl, rfl, rfl, rfl, rfl, rfl, rfl, rfl, rfl, rfl, rfl, rfl, rfl, rfl, rfl, rfl, rfl, rfl, rfl, rfl, rfl, rfl, rfl, rfl, rfl, rfl, rfl, rfl, rfl, rfl, rfl, rfl, rfl, rfl, rfl, rfl, rfl, rfl, rfl, rfl, rfl, rfl, rfl, rfl, rfl, rfl, rfl, rfl, rfl, rfl, rfl, rfl, rfl, rfl, rfl, rfl, rfl⟩
            have hw := hg9.whole
            rw [show ((List.range 116).map g9).toArray = #[g9 0, g9 1, g9 2, g9 3, g9 4, g9 5, g9 6, g9 7, g9 8, g9 9, g9 10, g9 11, g9 12, g9 13, g9 14, g9 15, g9 16, g9 17, g9 18, g9 19, g9 20, g9 21, g9 22, g9 23, g9 24, g9 25, g9 26, g9 27, g9 28, g9 29, g9 30, g9 31, g9 32, g9 33, g9 34, g9 35, g9 36, g9 37, g9 38, g9 39, g9 40, g9 41, g9 42, g9 43, g9 44, g9 45, g9 46, g9 47, g9 48, g9 49, g9 50, g9 51, g9 52, g9 53, g9 54, g9 55, g9 56, g9 57, g9 58, g9 59, g9 60, g9 61, g9 62, g9 63, g9 64, g9 65, g9 66, g9 67, g9 68, g9 69, g9 70, g9 71, g9 72, g9 73, g9 74, g9 75, g9 76, g9 77, g9 78, g9 79, g9 80, g9 81, g9 82, g9 83, g9 84, g9 85, g9 86, g9 87, g9 88, g9 89, g9 90, g9 91, g9 92, g9 93, g9 94, g9 95, g9 96, g9 97, g9 98, g9 99, g9 100, g9 101, g9 102, g9 103, g9 104, g9 105, g9 106, g9 107, g9 108, g9 109, g9 110, g9 111, g9 112, g9 113, g9 114, g9 115] from rfl] at hw
            dsimp only at hw
            rw [k0, k1, k2, k3, k4, k5, k7, k8, k9, k10, k11, k12, k13, k14, k19, k20, k21, k22, k23, k24, k25, k26, k27, k28, k29, k30, k31, k32, k33, k34, k35, k36, k37, k38, k39, k40, k41, k42, k43, k44, k45, k46, k47, k48, k49, k50, k51, k52, k53, k54, k55, k56, k57, k58, k59, k60, k61, k62, k63, k64, k65, k66, k67, k82] at hw
            subst hw
            clear hg9 k0 k1 k2 k3 k4 k5 k7 k8 k9 k10 k11 k12 k13 k14 k19 k20 k21 k22 k23 k24 k25 k26 k27 k28 k29 k30 k31 k32 k33 k34 k35 k36 k37 k38 k39 k40 k41 k42 k43 k44 k45 k46 k47 k48 k49 k50 k51 k52 k53 k54 k55 k56 k57 k58 k59 k60 k61 k62 k63 k64 k65 k66 k67 k82
            have hc0 := (Below.cell (p := ⟨g, i * 2, none⟩) hC hg).trans hc0
            have HM := hid (show MvS W w1 g g' b7 gp gq i q cq es2 es4 ps dx dy from ⟨HRL.out.next hC, HRM.out.next hC, HV.out.next hC, below_next HB.out hC, HR1.out.next HZ1.out hC, Nat.lt_of_lt_of_le HZ1.out hC.size, HR2.out.next HZ2.out hC, Nat.lt_of_lt_of_le HZ2.out hC.size, (Below.cell (p := ⟨g', i * 2, none⟩) hC hg').trans hd0⟩)
            clear ha9 ha10 hC hKQ KQ hKn L1 L2 hd0 HRL HRM HV HB HR1 HR2 HZ1 HZ2 hg hg'
            rename w1.cell? ⟨g, i * 2, none⟩ = _ => hc1
            go_wp2_with fail
            clear hc1
            refine wp_frameV (n := 116) rfl fun gB hgB => ?_
            have k0 : gB 0 = gA 0 := hgB 0 (by decide)
            have k1 : gB 1 = gA 1 := hgB 1 (by decide)
            have k2 : gB 2 = gA 2 := hgB 2 (by decide)
            have k3 : gB 3 = gA 3 := hgB 3 (by decide)
            have k4 : gB 4 = gA 4 := hgB 4 (by decide)
            have k5 : gB 5 = gA 5 := hgB 5 (by decide)
            have k7 : gB 7 = .pointer (some ⟨b7, 0, none⟩) := hgB 7 (by decide)
            have k8 : gB 8 = gA 8 := hgB 8 (by decide)
            have k9 : gB 9 = gA 9 := hgB 9 (by decide)
            have k10 : gB 10 = gA 10 := hgB 10 (by decide)
            have k11 : gB 11 = .slice (some ⟨g, 0, none⟩) m cr := hgB 11 (by decide)
            have k12 : gB 12 = .slice (some ⟨g', 0, none⟩) m cs := hgB 12 (by decide)
            have k13 : gB 13 = gA 13 := hgB 13 (by decide)
            have k14 : gB 14 = .int .i64 (i) := hgB 14 (by decide)
            have k19 : gB 19 = gA 19 := hgB 19 (by decide)
            have k20 : gB 20 = gA 20 := hgB 20 (by decide)
            have k21 : gB 21 = gA 21 := hgB 21 (by decide)
            have k22 : gB 22 = gA 22 := hgB 22 (by decide)
            have k23 : gB 23 = gA 23 := hgB 23 (by decide)
            have k24 : gB 24 = gA 24 := hgB 24 (by decide)
            have k25 : gB 25 = gA 25 := hgB 25 (by decide)
            have k26 : gB 26 = gA 26 := hgB 26 (by decide)
            have k27 : gB 27 = gA 27 := hgB 27 (by decide)
            have k28 : gB 28 = gA 28 := hgB 28 (by decide)
            have k29 : gB 29 = gA 29 := hgB 29 (by decide)
            have k30 : gB 30 = gA 30 := hgB 30 (by decide)
            have k31 : gB 31 = gA 31 := hgB 31 (by decide)
            have k32 : gB 32 = gA 32 := hgB 32 (by decide)
            have k33 : gB 33 = gA 33 := hgB 33 (by decide)
            have k34 : gB 34 = gA 34 := hgB 34 (by decide)
            have k35 : gB 35 = gA 35 := hgB 35 (by decide)
            have k36 : gB 36 = gA 36 := hgB 36 (by decide)
            have k37 : gB 37 = gA 37 := hgB 37 (by decide)
            have k38 : gB 38 = gA 38 := hgB 38 (by decide)
            have k39 : gB 39 = gA 39 := hgB 39 (by decide)
            have k40 : gB 40 = gA 40 := hgB 40 (by decide)
            have k41 : gB 41 = gA 41 := hgB 41 (by decide)
            have k42 : gB 42 = gA 42 := hgB 42 (by decide)
            have k43 : gB 43 = gA 43 := hgB 43 (by decide)
            have k44 : gB 44 = gA 44 := hgB 44 (by decide)
            have k45 : gB 45 = gA 45 := hgB 45 (by decide)
            have k46 : gB 46 = gA 46 := hgB 46 (by decide)
            have k47 : gB 47 = gA 47 := hgB 47 (by decide)
            have k48 : gB 48 = gA 48 := hgB 48 (by decide)
            have k49 : gB 49 = gA 49 := hgB 49 (by decide)
            have k50 : gB 50 = gA 50 := hgB 50 (by decide)
            have k51 : gB 51 = gA 51 := hgB 51 (by decide)
            have k52 : gB 52 = gA 52 := hgB 52 (by decide)
            have k53 : gB 53 = gA 53 := hgB 53 (by decide)
            have k54 : gB 54 = gA 54 := hgB 54 (by decide)
            have k55 : gB 55 = gA 55 := hgB 55 (by decide)
            have k56 : gB 56 = gA 56 := hgB 56 (by decide)
            have k57 : gB 57 = gA 57 := hgB 57 (by decide)
            have k58 : gB 58 = gA 58 := hgB 58 (by decide)
            have k59 : gB 59 = gA 59 := hgB 59 (by decide)
            have k60 : gB 60 = gA 60 := hgB 60 (by decide)
            have k61 : gB 61 = gA 61 := hgB 61 (by decide)
            have k62 : gB 62 = gA 62 := hgB 62 (by decide)
            have k63 : gB 63 = gA 63 := hgB 63 (by decide)
            have k64 : gB 64 = gA 64 := hgB 64 (by decide)
            have k65 : gB 65 = gA 65 := hgB 65 (by decide)
            have k66 : gB 66 = .int .i64 (m) := hgB 66 (by decide)
            have k67 : gB 67 = .int .i64 (i) := hgB 67 (by decide)
            have k87 : gB 87 = .slice (some ⟨gp, 0, none⟩) q cp := hgB 87 (by decide)
            have k88 : gB 88 = .int .i64 (q) := hgB 88 (by decide)
            have k89 : gB 89 = .int .i64 0 := hgB 89 (by decide)
            rw [show ((List.range 116).map gB).toArray = #[gB 0, gB 1, gB 2, gB 3, gB 4, gB 5, gB 6, gB 7, gB 8, gB 9, gB 10, gB 11, gB 12, gB 13, gB 14, gB 15, gB 16, gB 17, gB 18, gB 19, gB 20, gB 21, gB 22, gB 23, gB 24, gB 25, gB 26, gB 27, gB 28, gB 29, gB 30, gB 31, gB 32, gB 33, gB 34, gB 35, gB 36, gB 37, gB 38, gB 39, gB 40, gB 41, gB 42, gB 43, gB 44, gB 45, gB 46, gB 47, gB 48, gB 49, gB 50, gB 51, gB 52, gB 53, gB 54, gB 55, gB 56, gB 57, gB 58, gB 59, gB 60, gB 61, gB 62, gB 63, gB 64, gB 65, gB 66, gB 67, gB 68, gB 69, gB 70, gB 71, gB 72, gB 73, gB 74, gB 75, gB 76, gB 77, gB 78, gB 79, gB 80, gB 81, gB 82, gB 83, gB 84, gB 85, gB 86, gB 87, gB 88, gB 89, gB 90, gB 91, gB 92, gB 93, gB 94, gB 95, gB 96, gB 97, gB 98, gB 99, gB 100, gB 101, gB 102, gB 103, gB 104, gB 105, gB 106, gB 107, gB 108, gB 109, gB 110, gB 111, gB 112, gB 113, gB 114, gB 115] from rfl]
            dsimp only
            rw [k0, k1, k2, k3, k4, k5, k7, k8, k9, k10, k11, k12, k13, k14, k19, k20, k21, k22, k23, k24, k25, k26, k27, k28, k29, k30, k31, k32, k33, k34, k35, k36, k37, k38, k39, k40, k41, k42, k43, k44, k45, k46, k47, k48, k49, k50, k51, k52, k53, k54, k55, k56, k57, k58, k59, k60, k61, k62, k63, k64, k65, k66, k67, k87, k88, k89]
            clear hgB k0 k1 k2 k3 k4 k5 k7 k8 k9 k10 k11 k12 k13 k14 k19 k20 k21 k22 k23 k24 k25 k26 k27 k28 k29 k30 k31 k32 k33 k34 k35 k36 k37 k38 k39 k40 k41 k42 k43 k44 k45 k46 k47 k48 k49 k50 k51 k52 k53 k54 k55 k56 k57 k58 k59 k60 k61 k62 k63 k64 k65 k66 k67 k87 k88 k89
            go_loopw [89] (fun s89 wr => ∃ k : Nat, k ≤ q ∧ s89 = .int .i64 k ∧ Hid (MvS W wr g g' b7 gp gq i q cq es2 es4 ps dx dy)) (fun s89 _ => q - (intOf s89).toNat)
            case atStart => exact ⟨0, Nat.zero_le _, rfl, HM⟩
            case round =>
              clear HM
              obtain ⟨k, hk, rfl, HM⟩ := hrel
              by_cases hlk : k < q
              · have hkl : k < ps.length := by rw [← HQ.out]; exact hlk
                have hq := List.getElem?_eq_getElem hkl
                have hi1 := HP1.out _ (List.getElem_mem hkl)
                have hq2 : (ps.map (·.sh dx dy))[k]? = some (ps[k].sh dx dy) := by rw [List.getElem?_map, hq]; rfl
                have hi2 := HP2.out _ (List.mem_of_getElem? hq2)
                obtain ⟨c0, c1⟩ := HM.out.p k _ hq
                generalize ps[k] = p at hq hi1 hq2 hi2 c0 c1
                have HQP := hid hq2
                have HIN := hid (And.intro hi1 hi2)
                clear hq hq2 hi1 hi2 hkl
                have HV16 := hid (Var.new wr (pcel p) 23 _ rfl)
                have HX := hid (below_alloc (Below.refl _ wr) (.cells (pcel p) 23))
                have HM3 := hid (HM.out.next HX.out)
                clear HX HM
                go_upto_region 21 with fail
                clear c0 c1
                generalize wr.alloc _ = w3 at HV16 HM3 ⊢
                generalize wr.heap.size = b16 at HV16 ⊢
                obtain ⟨q0, q1, q2, q3, q4, q5, qf⟩ := HM3.out.v.read6
                obtain ⟨z0, z1, zf⟩ := HV16.out.read2
                go_wp2_with fail
                clear q0 q1 q2 q3 q4 q5 qf z0 z1 zf HV16
                (with_reducible refine (apply_sh (p := p) HD.out HIN.out.1 HIN.out.2 _).mono ?_); rintro e w5 ⟨rfl, hb⟩
                have HX := hid (below_alloc (Below.refl _ w5) (.cells (pcel (p.sh dx dy)) 23))
                have HM6 := hid ((HM3.out.next hb).next HX.out)
                have HV17 := hid (Var.new w5 (pcel (p.sh dx dy)) 23 _ rfl)
                clear hb HX HM3
                go_upto_region 22 with fail
                generalize w5.alloc _ = w6 at HV17 HM6 ⊢
                generalize w5.heap.size = b17 at HV17 ⊢
                clear HIN w5 w3
                rename ∀ (a : Act) (w : World), Code.wp _ _ _ a w → (_ : Act → World → Prop) a w => hKn
                refine wp_region_fan 13 1000 (Over w6) (by kernel_rfl) (by kernel_rfl) (Over.start w6) ?_
                simp only [List.take_succ_cons, List.take_zero, List.drop_succ_cons, List.drop_zero]
                have L0 := fun b w1 (h : Over w6 b w1) => HV17.out.next h
                have L2 := fun b w1 (h : Over w6 b w1) => (Below.cell (p := ⟨g', i * 2, none⟩) h HM6.out.rm.1).trans HM6.out.c
                have L3 := fun b w1 (h : Over w6 b w1) => HM6.out.q.next HM6.out.lq h k _ HQP.out
                refine WalksE.sound _ _ _ _ ?_ (((((((((((((((((((((((((((((((((((((((((((((((((((((((((((((((((((((((((((((((((((((((((((Is.start _ (n := 116) rfl).pin 0 (v := gA 0) rfl).pin 1 (v := gA 1) rfl).pin 2 (v := gA 2) rfl).pin 3 (v := gA 3) rfl).pin 4 (v := gA 4) rfl).pin 5 (v := gA 5) rfl).pin 7 (v := .pointer (some ⟨b7, 0, none⟩)) rfl).pin 8 (v := gA 8) rfl).pin 9 (v := gA 9) rfl).pin 10 (v := gA 10) rfl).pin 11 (v := .slice (some ⟨g, 0, none⟩) m cr) rfl).pin 12 (v := .slice (some ⟨g', 0, none⟩) m cs) rfl).pin 13 (v := gA 13) rfl).pin 14 (v := .int .i64 (i)) rfl).pin 15 (v := .int .i64 (k)) rfl).pin 16 (v := .pointer (some ⟨b16, 0, none⟩)) rfl).pin 17 (v := .pointer (some ⟨b17, 0, none⟩)) rfl).pin 18 (v := .int .i64 0) rfl).pin 19 (v := gA 19) rfl).pin 20 (v := gA 20) rfl).pin 21 (v := gA 21) rfl).pin 22 (v := gA 22) rfl).pin 23 (v := gA 23) rfl).pin 24 (v := gA 24) rfl).pin 25 (v := gA 25) rfl).pin 26 (v := gA 26) rfl).pin 27 (v := gA 27) rfl).pin 28 (v := gA 28) rfl).pin 29 (v := gA 29) rfl).pin 30 (v := gA 30) rfl).pin 31 (v := gA 31) rfl).pin 32 (v := gA 32) rfl).pin 33 (v := gA 33) rfl).pin 34 (v := gA 34) rfl).pin 35 (v := gA 35) rfl).pin 36 (v := gA 36) rfl).pin 37 (v := gA 37) rfl).pin 38 (v := gA 38) rfl).pin 39 (v := gA 39) rfl).pin 40 (v := gA 40) rfl).pin 41 (v := gA 41) rfl).pin 42 (v := gA 42) rfl).pin 43 (v := gA 43) rfl).pin 44 (v := gA 44) rfl).pin 45 (v := gA 45) rfl).pin 46 (v := gA 46) rfl).pin 47 (v := gA 47) rfl).pin 48 (v := gA 48) rfl).pin 49 (v := gA 49) rfl).pin 50 (v := gA 50) rfl).pin 51 (v := gA 51) rfl).pin 52 (v := gA 52) rfl).pin 53 (v := gA 53) rfl).pin 54 (v := gA 54) rfl).pin 55 (v := gA 55) rfl).pin 56 (v := gA 56) rfl).pin 57 (v := gA 57) rfl).pin 58 (v := gA 58) rfl).pin 59 (v := gA 59) rfl).pin 60 (v := gA 60) rfl).pin 61 (v := gA 61) rfl).pin 62 (v := gA 62) rfl).pin 63 (v := gA 63) rfl).pin 64 (v := gA 64) rfl).pin 65 (v := gA 65) rfl).pin 66 (v := .int .i64 (m)) rfl).pin 67 (v := .int .i64 (i)) rfl).pin 68 (v := gB 68) rfl).pin 69 (v := gB 69) rfl).pin 70 (v := gB 70) rfl).pin 71 (v := gB 71) rfl).pin 72 (v := gB 72) rfl).pin 73 (v := gB 73) rfl).pin 74 (v := gB 74) rfl).pin 75 (v := gB 75) rfl).pin 76 (v := gB 76) rfl).pin 77 (v := gB 77) rfl).pin 78 (v := gB 78) rfl).pin 79 (v := gB 79) rfl).pin 80 (v := gB 80) rfl).pin 81 (v := gB 81) rfl).pin 82 (v := gB 82) rfl).pin 83 (v := gB 83) rfl).pin 84 (v := gB 84) rfl).pin 85 (v := gB 85) rfl).pin 86 (v := gB 86) rfl).pin 87 (v := .slice (some ⟨gp, 0, none⟩) q cp) rfl).pin 88 (v := .int .i64 (q)) rfl).pin 89 (v := .int .i64 (k)) rfl).pin 115 (v := gB 115) rfl)
                generalize (fun i => Array.getD _ i undef) = gfn
                refine walks_with fun KQ hKQ => ?_
                (refine walks_one fun K hK => ?_); refine st_pure rfl rfl (fun _ => rfl) ?_; refine hK _ ?_; clear hK K
                (refine walks_one fun K hK => ?_); refine st_pure (v := .bool false) rfl rfl (fun _ => run_neE rfl rfl) ?_; refine hK _ ?_; clear hK K
                (refine walks_one fun K hK => ?_); refine st_pure rfl rfl (fun _ => rfl) ?_; refine hK _ ?_; clear hK K
                (refine walks_one fun K hK => ?_); refine st_read rfl rfl (fun _ _ h => run_loadPt rfl (L0 _ _ h)) ?_; refine hK _ ?_; clear hK K
                (refine walks_one fun K hK => ?_); refine st_pure rfl rfl (fun _ => rfl) ?_; refine hK _ ?_; clear hK K
                (refine walks_one fun K hK => ?_); refine st_pure rfl rfl (fun _ => rfl) ?_; refine hK _ ?_; clear hK K
                (refine walks_one fun K hK => ?_); refine st_pure (v := .pointer (some ⟨g', i * 2, none⟩)) rfl rfl (fun _ => (run_indexLn (a := ⟨g', 0, none⟩) (j := i) rfl rfl (by omega) (by omega)).trans (by rw [addr0, Int.toNat_natCast])) ?_; refine hK _ ?_; clear hK K
                (refine walks_one fun K hK => ?_); refine st_pure rfl rfl (fun _ => run_fld_line0 rfl) ?_; refine hK _ ?_; clear hK K
                (refine walks_one fun K hK => ?_); refine st_read rfl rfl (fun _ _ h => run_loadSl rfl (L2 _ _ h)) ?_; refine hK _ ?_; clear hK K
                (refine walks_one fun K hK => ?_); refine st_pure rfl rfl (fun _ => rfl) ?_; refine hK _ ?_; clear hK K
                (refine walks_one fun K hK => ?_); refine st_pure (v := .pointer (some ⟨gq, k * 2, none⟩)) rfl rfl (fun _ => (run_indexPt (a := ⟨gq, 0, none⟩) (j := k) rfl rfl (by omega) (by omega)).trans (by rw [addr0, Int.toNat_natCast])) ?_; refine hK _ ?_; clear hK K
                (refine walks_one fun K hK => ?_); refine st_read rfl rfl (fun _ _ h => run_ptRow (p := p.sh dx dy) rfl (L3 _ _ h).1 (L3 _ _ h).2) ?_; refine hK _ ?_; clear hK K
                (refine walks_one fun K hK => ?_); refine st_pure (v := .bool false) rfl rfl (fun _ => run_nePtV rfl rfl) ?_; refine hK _ ?_; clear hK K
                refine walks_end fun a9 ha9 => hKQ _ fun w1 hC => ?_
                refine sq_val (v := .bool false) ha9 rfl rfl fun a10 ha10 => ?_
                refine wpList_nil ?_
                refine hKn _ _ ?_
                obtain ⟨g9, hg9, k0, k1, k2, k3, k4, k5, k7, k8, k9, k10, k11, k12, k13, k14, k19, k20, k21, k22, k23, k24, k25, k26, k27, k28, k29, k30, k31, k32, k33, k34, k35, k36, k37, k38, k39, k40, k41, k42, k43, k44, k45, k46, k47, k48, k49, k50, k51, k52, k53, k54, k55, k56, k57, k58, k59, k60, k61, k62, k63, k64, k65, k66, k67, k68, k69, k70, k71, k72, k73, k74, k75, k76, k77, k78, k79, k80, k81, k82, k83, k84, k85, k86, k87, k88, k89, k115, k113⟩ : ∃ g9, Is a10 116 g9 ∧ g9 0 = gA 0 ∧ g9 1 = gA 1 ∧ g9 2 = gA 2 ∧ g9 3 = gA 3 ∧ g9 4 = gA 4 ∧ g9 5 = gA 5 ∧ g9 7 = .pointer (some ⟨b7, 0, none⟩) ∧ g9 8 = gA 8 ∧ g9 9 = gA 9 ∧ g9 10 = gA 10 ∧ g9 11 = .slice (some ⟨g, 0, none⟩) m cr ∧ g9 12 = .slice (some ⟨g', 0, none⟩) m cs ∧ g9 13 = gA 13 ∧ g9 14 = .int .i64 (i) ∧ g9 19 = gA 19 ∧ g9 20 = gA 20 ∧ g9 21 = gA 21 ∧ g9 22 = gA 22 ∧ g9 23 = gA 23 ∧ g9 24 = gA 24 ∧ g9 25 = gA 25 ∧ g9 26 = gA 26 ∧ g9 27 = gA 27 ∧ g9 28 = gA 28 ∧ g9 29 = gA 29 ∧ g9 30 = gA 30 ∧ g9 31 = gA 31 ∧ g9 32 = gA 32 ∧ g9 33 = gA 33 ∧ g9 34 = gA 34 ∧ g9 35 = gA 35 ∧ g9 36 = gA 36 ∧ g9 37 = gA 37 ∧ g9 38 = gA 38 ∧ g9 39 = gA 39 ∧ g9 40 = gA 40 ∧ g9 41 = gA 41 ∧ g9 42 = gA 42 ∧ g9 43 = gA 43 ∧ g9 44 = gA 44 ∧ g9 45 = gA 45 ∧ g9 46 = gA 46 ∧ g9 47 = gA 47 ∧ g9 48 = gA 48 ∧ g9 49 = gA 49 ∧ g9 50 = gA 50 ∧ g9 51 = gA 51 ∧ g9 52 = gA 52 ∧ g9 53 = gA 53 ∧ g9 54 = gA 54 ∧ g9 55 = gA 55 ∧ g9 56 = gA 56 ∧ g9 57 = gA 57 ∧ g9 58 = gA 58 ∧ g9 59 = gA 59 ∧ g9 60 = gA 60 ∧ g9 61 = gA 61 ∧ g9 62 = gA 62 ∧ g9 63 = gA 63 ∧ g9 64 = gA 64 ∧ g9 65 = gA 65 ∧ g9 66 = .int .i64 (m) ∧ g9 67 = .int .i64 (i) ∧ g9 68 = gB 68 ∧ g9 69 = gB 69 ∧ g9 70 = gB 70 ∧ g9 71 = gB 71 ∧ g9 72 = gB 72 ∧ g9 73 = gB 73 ∧ g9 74 = gB 74 ∧ g9 75 = gB 75 ∧ g9 76 = gB 76 ∧ g9 77 = gB 77 ∧ g9 78 = gB 78 ∧ g9 79 = gB 79 ∧ g9 80 = gB 80 ∧ g9 81 = gB 81 ∧ g9 82 = gB 82 ∧ g9 83 = gB 83 ∧ g9 84 = gB 84 ∧ g9 85 = gB 85 ∧ g9 86 = gB 86 ∧ g9 87 = .slice (some ⟨gp, 0, none⟩) q cp ∧ g9 88 = .int .i64 (q) ∧ g9 89 = .int .i64 (k) ∧ g9 115 = gB 115 ∧ g9 113 = .bool false := ⟨_, ha10, rfl, rfl, rfl, rfl, rfl, rfl, rfl, rfl, rfl, rfl, rfl, rfl, rfl, rfl, rfl, rfl, rfl, rfl, rfl, rfl, rfl, rfl, rfl, rfl, rfl, rfl, rfl, rfl, rfl, rfl, rfl, rfl, rfl, rfl, rfl, rfl, rfl, rfl, rfl, rfl, rfl, rfl, rfl, rfl, rfl, rfl, rfl, rfl, rfl, rfl, rfl, rfl, rfl, rfl, rfl, rfl, rfl, rfl, rfl, rfl, rfl, rfl, rfl, rfl, rfl, rfl, rfl, rfl, rfl, rfl, rfl, rfl, rfl, rfl, rfl, rfl, rfl, rfl, rfl, rfl, rfl, rfl, rfl, rfl, rfl, rfl, rfl⟩
                have hw := hg9.whole
                rw [show ((List.range 116).map g9).toArray = #[g9 0, g9 1, g9 2, g9 3, g9 4, g9 5, g9 6, g9 7, g9 8, g9 9, g9 10, g9 11, g9 12, g9 13, g9 14, g9 15, g9 16, g9 17, g9 18, g9 19, g9 20, g9 21, g9 22, g9 23, g9 24, g9 25, g9 26, g9 27, g9 28, g9 29, g9 30, g9 31, g9 32, g9 33, g9 34, g9 35, g9 36, g9 37, g9 38, g9 39, g9 40, g9 41, g9 42, g9 43, g9 44, g9 45, g9 46, g9 47, g9 48, g9 49, g9 50, g9 51, g9 52, g9 53, g9 54, g9 55, g9 56, g9 57, g9 58, g9 59, g9 60, g9 61, g9 62, g9 63, g9 64, g9 65, g9 66, g9 67, g9 68, g9 69, g9 70, g9 71, g9 72, g9 73, g9 74, g9 75, g9 76, g9 77, g9 78, g9 79, g9 80, g9 81, g9 82, g9 83, g9 84, g9 85, g9 86, g9 87, g9 88, g9 89, g9 90, g9 91, g9 92, g9 93, g9 94, g9 95, g9 96, g9 97, g9 98, g9 99, g9 100, g9 101, g9 102, g9 103, g9 104, g9 105, g9 106, g9 107, g9 108, g9 109, g9 110, g9 111, g9 112, g9 113, g9 114, g9 115] from rfl] at hw
                dsimp only at hw
                rw [k0, k1, k2, k3, k4, k5, k7, k8, k9, k10, k11, k12, k13, k14, k19, k20, k21, k22, k23, k24, k25, k26, k27, k28, k29, k30, k31, k32, k33, k34, k35, k36, k37, k38, k39, k40, k41, k42, k43, k44, k45, k46, k47, k48, k49, k50, k51, k52, k53, k54, k55, k56, k57, k58, k59, k60, k61, k62, k63, k64, k65, k66, k67, k68, k69, k70, k71, k72, k73, k74, k75, k76, k77, k78, k79, k80, k81, k82, k83, k84, k85, k86, k87, k88, k89, k115, k113] at hw
                subst hw
                clear hg9 k0 k1 k2 k3 k4 k5 k7 k8 k9 k10 k11 k12 k13 k14 k19 k20 k21 k22 k23 k24 k25 k26 k27 k28 k29 k30 k31 k32 k33 k34 k35 k36 k37 k38 k39 k40 k41 k42 k43 k44 k45 k46 k47 k48 k49 k50 k51 k52 k53 k54 k55 k56 k57 k58 k59 k60 k61 k62 k63 k64 k65 k66 k67 k68 k69 k70 k71 k72 k73 k74 k75 k76 k77 k78 k79 k80 k81 k82 k83 k84 k85 k86 k87 k88 k89 k115 k113
                have HM1 := hid (HM6.out.next hC)
                clear ha9 ha10 hC hKQ KQ hKn L0 L2 L3 HV17 HM6 HQP
                go_wp2_with fail
                go_roundw
                case rel => exact ⟨k + 1, by omega, by go_num, HM1⟩
                case measure => simp [intOf]; omega
              · go_wp2_with fail
                go_roundw
                case rel => exact ⟨i + 1, by omega, by go_num, hid HM.out.rl, hid HM.out.rm, hid HM.out.v, hid HM.out.b⟩
                case measure => simp [intOf]; omega
          · go_wp2_with fail
            go_ret
            exact ⟨rfl, HB.out⟩

set_option maxRecDepth 100000 in
theorem lifted (os : Os) (started : os.Started) (H : Type) (enc : TypeId × Value → H) :
    ReturnsInHanded {} Try.checked os 6 .any (Rows.conicMovesSpec.pre6 enc Try.prog Try.f6 Rows.conicMovesRow.domain false) (Rows.conicMovesSpec.post enc Try.prog Try.f6 false true false false) := by
  refine returnsInHanded_of_change (C := Try.checked) own started (by kernel_rfl) Try.func6
    (ChangeSpec.witness6 (enc := enc) (C := Try.checked) false ⟨#[], #[.slice none 0 0, .int .i64 0, .int .i64 0], []⟩ 8 (by kernel_rfl) (by kernel_rfl) (by kernel_rfl) (by kernel_rfl)) ?_
  intro W base args ds gs before hval0 hW hcnd _
  have hval : ∀ (j : Nat) t v, Try.f6.params[j]? = some t → args[j]? = some v → Value.okWide Try.prog W .any base t v := hval0
  have hW' := hW
  obtain ⟨p, q, hA0, hV, rfl, hfz, hnd⟩ := hW
  have hA : DataW.TrodAll enc Try.prog W 0 (fun _ => true) true Try.f6.params.toList args.toList ds p := hA0
  rw [Try.params6] at hA hval
  obtain ⟨v0, vs0, d0, ds0, p0, q0, hargs, rfl, rfl, h0, r0⟩ := trodAll_cons hA
  obtain ⟨v1, vs1, d1, ds1, p1, q1, rfl, rfl, rfl, h1, r1⟩ := trodAll_cons r0
  obtain ⟨v2, vs2, d2, ds2, p2, q2, rfl, rfl, rfl, h2, r2⟩ := trodAll_cons r1
  obtain ⟨rfl, rfl, rfl⟩ := trodAll_nil r2
  obtain rfl : args = #[v0, v1, v2] := by cases args; simp_all
  obtain ⟨rfl, rfl⟩ := trodVars_none hV
  have k0 := h0
  have lt0 : ∀ x ∈ p0, x.block < W.heap.size := by obtain ⟨m, hm⟩ := k0; exact DataW.trod_lt m _ _ _ hm
  obtain ⟨A0, n0, c0, ss0, rfl, hn0, hs0, hm0⟩ := open_segs Try.underlying35 Try.underlying25 (by kernel_rfl) (by kernel_rfl) (by kernel_rfl) (hval 0 35 v0 rfl rfl) h0
  have hc0 := open_cap Try.underlying35 h0
  obtain ⟨x1, rfl, rfl, rfl, w1⟩ := open_int Try.underlying3 (hval 1 3 v1 rfl rfl) h1
  obtain ⟨x2, rfl, rfl, rfl, w2⟩ := open_int Try.underlying3 (hval 2 3 v2 rfl rfl) h2
  clear hA0 hval0
  refine (rest A0 n0 c0 ss0 x1 x2 W hn0 hs0 hm0 hc0).mono fun e W' ⟨he, bel⟩ => ?_
  subst he
  exact ⟨_, rfl, _, _, _, [], _, [], hW', trodAll_mk1 (shut_bool Try.underlying4 _), (trodAll_cons_mk (Below.trod laidOut (by kernel_rfl) (of_decide_eq_true (by kernel_rfl)) k0 bel lt0) (trodAll_cons_mk (shut_int Try.underlying3 w1) (trodAll_cons_mk (shut_int Try.underlying3 w2) trodAll_mk0))), rfl, bel.frame _, fun h => by cases h⟩

theorem over : Rows.conicMovesRow.holds Try.pinned (OpenSpec.ofChange Rows.conicMovesSpec) :=
  OpenClaim.holds_of_wide 6 Try.f6 rfl rfl rfl rfl rfl rfl rfl ⟨rfl, rfl, rfl, rfl, rfl⟩ rfl rfl rfl rfl rfl (by kernel_rfl) Try.func6 (by kernel_rfl)
    (of_decide_eq_true (by kernel_rfl)) (by unfold Func.isWrapper; first | (rw [if_pos (by decide +kernel)]; kernel_rfl) | (rw [if_neg (by decide +kernel)]; exact ⟨rfl, rfl⟩))
    (fun os started H enc _ => lifted os started H enc)

/-- The statement. -/
theorem proved : Rows.ConicMovesSaid := over
end Go.Proofs.Ytcdedefhofkbhaa.conicMoves
