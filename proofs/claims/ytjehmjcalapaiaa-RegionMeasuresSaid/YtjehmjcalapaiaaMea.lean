/- The law of Has, Area and Bounds. -/
import Derived.Test.YtjehmjcalapaiaaBds
import Derived.Test.YtjehmjcalapaiaaMeaR
import Derived.Test.YtjehmjcalapaiaaHas
import Derived.Test.YtjehmjcalapaiaaRHas
import Derived.Test.YtjehmjcalapaiaaArea
import Derived.Test.YtjehmjcalapaiaaRArea
import Derived.Test.YtjehmjcalapaiaaRgn
import Derived.BigRegion
namespace Go.Proofs.Ytjehmjcalapaiaa
open Go Go.RowKit
set_option linter.unusedVariables false
set_option linter.unusedSimpArgs false
attribute [local go_sem] ite_maxB ite_minB

def ly (x0 : Int) (ss : List Rn) : Int := ss.foldl (fun m r => min m r.y) x0
def hy (x0 : Int) (ss : List Rn) : Int := ss.foldl (fun m r => max m (r.y + 1)) x0
theorem ly_is {m : Int} : ∀ {ss : List Rn} {x0 : Int}, (∀ r ∈ ss, m ≤ r.y) → m ≤ x0 → (x0 = m ∨ ∃ r ∈ ss, r.y = m) → ly x0 ss = m
  | [], x0, _, _, h => by
    rcases h with h | ⟨r, hr, -⟩
    · exact h
    · cases hr
  | r :: xs, x0, h1, h2, h3 => by
    have hr := h1 r (by simp)
    show ly (min x0 r.y) xs = m
    refine ly_is (fun s hs => h1 s (List.mem_cons_of_mem _ hs)) (by omega) ?_
    rcases h3 with h3 | ⟨s, hs, e⟩
    · exact .inl (by omega)
    · rcases List.mem_cons.1 hs with e2 | e2
      · subst e2; exact .inl (by omega)
      · exact .inr ⟨s, e2, e⟩
theorem hy_is {m : Int} : ∀ {ss : List Rn} {x0 : Int}, (∀ r ∈ ss, r.y + 1 ≤ m) → x0 ≤ m → (x0 = m ∨ ∃ r ∈ ss, r.y + 1 = m) → hy x0 ss = m
  | [], x0, _, _, h => by
    rcases h with h | ⟨r, hr, -⟩
    · exact h
    · cases hr
  | r :: xs, x0, h1, h2, h3 => by
    have hr := h1 r (by simp)
    show hy (max x0 (r.y + 1)) xs = m
    refine hy_is (fun s hs => h1 s (List.mem_cons_of_mem _ hs)) (by omega) ?_
    rcases h3 with h3 | ⟨s, hs, e⟩
    · exact .inl (by omega)
    · rcases List.mem_cons.1 hs with e2 | e2
      · subst e2; exact .inl (by omega)
      · exact .inr ⟨s, e2, e⟩
theorem lx_first {ss : List Rn} {r0 : Rn} (h : ss[0]? = some r0) (hb : r0.a ≤ 9000) : lx 9000 ss = lx r0.a ss := by
  cases ss with
  | nil => cases h
  | cons r t =>
    cases h
    show lx (min 9000 r0.a) t = lx (min r0.a r0.a) t
    rw [show min 9000 r0.a = min r0.a r0.a by omega]
theorem hx_first {ss : List Rn} {r0 : Rn} (h : ss[0]? = some r0) (hb : -9000 ≤ r0.b) : hx (-9000) ss = hx r0.b ss := by
  cases ss with
  | nil => cases h
  | cons r t =>
    cases h
    show hx (max (-9000) r0.b) t = hx (max r0.b r0.b) t
    rw [show max (-9000) r0.b = max r0.b r0.b by omega]
/-- What Bounds returns is what a walk over all runs finds. -/
theorem bds_all {ss : List Rn} {r0 r1 : Rn} (hc : chk ss = 0) (h0 : ss[0]? = some r0) (h1 : ss[ss.length - 1]? = some r1) :
    lx r0.a ss = lx 9000 ss ∧ r0.y = ly 9000 ss ∧ hx r0.b ss = hx (-9000) ss ∧ r1.y + 1 = hy (-9000) ss := by
  have hin : ∀ r ∈ ss, ((-8192 ≤ r.y ∧ r.y ≤ 8191) ∧ (-8192 ≤ r.a ∧ r.a ≤ 8192) ∧ (-8192 ≤ r.b ∧ r.b ≤ 8192)) ∧ r.a < r.b := (chk_all hc).1
  have m0 := List.mem_of_getElem? h0
  have m1 := List.mem_of_getElem? h1
  have b0 := hin r0 m0
  have b1 := hin r1 m1
  have up : ∀ (i j : Nat) (a b : Rn), i ≤ j → ss[i]? = some a → ss[j]? = some b → a.y ≤ b.y := fun i j a b hij ha hb => by
    rcases Nat.lt_or_ge i j with k | k
    · have := (chk_all hc).2 i j a b k ha hb
      unfold Bh at this
      omega
    · obtain rfl : i = j := by omega
      rw [ha] at hb
      cases hb
      exact Int.le_refl _
  refine ⟨(lx_first h0 (by omega)).symm, (ly_is (fun r hr => ?_) (by omega) (.inr ⟨r0, m0, rfl⟩)).symm, (hx_first h0 (by omega)).symm, (hy_is (fun r hr => ?_) (by omega) (.inr ⟨r1, m1, rfl⟩)).symm⟩
  · obtain ⟨i, hi, e⟩ := List.mem_iff_getElem.1 hr
    exact up 0 i r0 r (Nat.zero_le _) h0 (by rw [List.getElem?_eq_getElem hi, e])
  · obtain ⟨i, hi, e⟩ := List.mem_iff_getElem.1 hr
    have := up i (ss.length - 1) r r1 (by omega) (by rw [List.getElem?_eq_getElem hi, e]) h1
    omega

theorem area_bad (A : Option Addr) (ss : List Rn) (n c : Nat) (w : World) (hn : n = ss.length) (hl : n ≤ maxLen) (hs : Runs w A ss) (hc : chk ss ≠ 0) :
    Calls Try.prog 23 #[.slice A n c] w fun e w' => e = .returned (.tuple #[.int .i64 0, .int .i64 (chk ss)]) ∧ Below w.heap.size w w' := by
  have HS := hid hs
  have HN := hid hn
  have HM := hid hl
  have hc' : (chk ss != 0) = true := by simpa using hc
  clear hs hn hl hc
  go_enter Try.func23, Try.ntmps23
  go_wp2_with fail
  (with_reducible refine (check_any A ss n c _ HN.out HM.out HS.out).mono ?_); rintro e w1 ⟨rfl, hb⟩
  have HB := hid hb
  clear hb
  go_wp2_with fail
  go_ret2
  exact ⟨rfl, HB.out⟩

theorem then_norm {K : Act → World → Prop} {Q : Exit → Act → World → Prop} {a : Act} {w : World} (h : K a w) : Exit.then K Q .normal a w := h
set_option maxRecDepth 100000 in
set_option maxHeartbeats 2000000 in
theorem inc19 {u0 u1 u2 u3 u4 u5 u6 u7 u8 u9 u10 u11 u12 u13 u14 u15 u16 u17 u18 u19 u20 u21 u22 u23 u24 u25 u26 u27 u28 u29 u30 u31 u32 u33 u34 u35 u36 u37 u38 u39 u40 u41 u42 u43 u44 u45 u46 u47 u48 u49 u50 u51 u52 u53 u54 u55 u56 u57 u58 u59 u60 u61 u62 u63 u64 u65 u66 u67 u68 u69 u70 u71 u72 u73 u74 u75 u76 u77 u78 u79 u80 u81 u82 u83 u84 u85 u86 u87 u88 u89 u90 u91 u92 u93 u94 u95 u96 u97 u98 u99 u100 u101 u102 u103 u104 u105 u106 u107 u108 u109 u110 u111 u113 u114 u115 u116 u117 u118 u119 u120 u121 u122 u123 u124 u125 u126 u127 u128 u129 u130 u131 u132 u133 u134 u135 u136 u137 u138 u139 u140 u141 u142 u143 u144 u145 u146 u147 u148 u149 u150 u151 u152 u153 u154 u155 u156 u157 u158 u159 u160 u161 u162 : Value} {x y : Int} {Q : Exit → Act → World → Prop} {w : World} (hx : IntKind.i64.wrap (x + 1) = y) (k : Q .normal ⟨#[u0, u1, u2, u3, u4, u5, u6, u7, u8, u9, u10, u11, u12, u13, u14, u15, u16, u17, u18, u19, u20, u21, u22, u23, u24, u25, u26, u27, u28, u29, u30, u31, u32, u33, u34, u35, u36, u37, u38, u39, u40, u41, u42, u43, u44, u45, u46, u47, u48, u49, u50, u51, u52, u53, u54, u55, u56, u57, u58, u59, u60, u61, u62, u63, u64, u65, u66, u67, u68, u69, u70, u71, u72, u73, u74, u75, u76, u77, u78, u79, u80, u81, u82, u83, u84, u85, u86, u87, u88, u89, u90, u91, u92, u93, u94, u95, u96, u97, u98, u99, u100, u101, u102, u103, u104, u105, u106, u107, u108, u109, u110, u111, .int .i64 y, u113, u114, u115, u116, u117, u118, u119, u120, u121, u122, u123, u124, u125, u126, u127, u128, u129, u130, u131, u132, u133, u134, u135, u136, u137, u138, u139, u140, u141, u142, u143, u144, u145, u146, u147, u148, u149, .int .i64 y, u151, u152, u153, u154, u155, u156, u157, u158, u159, u160, u161, u162], []⟩ w) :
    Code.wp Try.prog (Code.region 19 #[{ dst := some 150, op := .binOp .add 3 (.tmp 112) (.const (.int .i64 1)) 3, type := 3, pos := "regions.go:142", after := #[], guard := none }, { dst := some 112, op := .move (.tmp 150), type := 3, pos := "regions.go:142", after := #[{ on := 0, ground := Ground.data }], guard := none }] false) Q ⟨#[u0, u1, u2, u3, u4, u5, u6, u7, u8, u9, u10, u11, u12, u13, u14, u15, u16, u17, u18, u19, u20, u21, u22, u23, u24, u25, u26, u27, u28, u29, u30, u31, u32, u33, u34, u35, u36, u37, u38, u39, u40, u41, u42, u43, u44, u45, u46, u47, u48, u49, u50, u51, u52, u53, u54, u55, u56, u57, u58, u59, u60, u61, u62, u63, u64, u65, u66, u67, u68, u69, u70, u71, u72, u73, u74, u75, u76, u77, u78, u79, u80, u81, u82, u83, u84, u85, u86, u87, u88, u89, u90, u91, u92, u93, u94, u95, u96, u97, u98, u99, u100, u101, u102, u103, u104, u105, u106, u107, u108, u109, u110, u111, .int .i64 x, u113, u114, u115, u116, u117, u118, u119, u120, u121, u122, u123, u124, u125, u126, u127, u128, u129, u130, u131, u132, u133, u134, u135, u136, u137, u138, u139, u140, u141, u142, u143, u144, u145, u146, u147, u148, u149, u150, u151, u152, u153, u154, u155, u156, u157, u158, u159, u160, u161, u162], []⟩ w := by
  go_wp2
  exact k

set_option maxRecDepth 100000 in
set_option maxHeartbeats 4000000 in
theorem mea_any (A : Option Addr) (n c : Nat) (ss : List Rn) (x y : Int) (w : World) (hn : n = ss.length) (hs : Runs w A ss) (hm : n ≤ maxLen) :
    Calls Try.prog 11 #[.slice A n c, .int .i64 x, .int .i64 y] w fun e w' => e = .returned (.bool true) ∧ Below w.heap.size w w' := by
  have HS := hid hs
  have HN := hid hn
  have HM := hid hm
  clear hs hn
  go_enter Try.func11, Try.ntmps11
  go_wp2_with fail
  (with_reducible refine (regions_any _).mono ?_); rintro e w1 ⟨rfl, hb⟩
  have HB1 := hid hb
  clear hb
  go_wp2_with fail
  by_cases hc : chk ss = 0
  · have HC := hid hc
    (with_reducible refine (has_ok A ss n c x y _ HN.out HM.out (HS.out.next HB1.out) hc).mono ?_); rintro e w2 ⟨rfl, hb⟩
    have HB2 := hid (below_next HB1.out hb)
    clear hb
    go_wp2_with fail
    (with_reducible refine (area_any A ss n c _ HN.out (HS.out.next HB2.out) hc).mono ?_); rintro e w3 ⟨rfl, hb⟩
    have HB3 := hid (below_next HB2.out hb)
    clear hb
    go_wp2_with fail
    rcases Nat.eq_zero_or_pos n with h0 | h0
    · subst h0
      obtain rfl : ss = [] := List.eq_nil_of_length_eq_zero HN.out.symm
      (with_reducible refine (bounds_none A c _).mono ?_); rintro e w4 ⟨rfl, hb⟩
      have HB4 := hid (below_next HB3.out hb)
      clear hb
      go_wp2_with fail
      (with_reducible refine (rcheck_any A [] 0 c _ rfl HM.out (Runs.nil _ _)).mono ?_); rintro e w5 ⟨rfl, hb⟩
      have HB5 := hid (show Below w.heap.size w w5 from below_next (below_alloc (below_alloc HB4.out _) _) hb)
      have HP0 := hid (((Var.new w4 (pcel ⟨0, 0⟩) 32 _ rfl).alloc (.cells (pcel ⟨0, 0⟩) 32)).next hb)
      have HP1 := hid ((Var.new (w4.alloc (.cells (pcel ⟨0, 0⟩) 32)) (pcel ⟨0, 0⟩) 32 (w4.heap.size + 1) (by simp)).next hb)
      obtain ⟨p0, p1, -⟩ := HP0.out.read2
      obtain ⟨q0, q1, -⟩ := HP1.out.read2
      rw [HC.out]
      clear hb
      go_wp2_with fail
      (with_reducible refine (rhas_any A [] 0 c x y _ rfl HM.out (Runs.nil _ _)).mono ?_); rintro e w6 ⟨rfl, rfl⟩
      generalize has [] x y = hv
      have hv' : (hv != hv) = false := by simp
      go_wp2_with fail
      (with_reducible refine (rarea_any A [] 0 c _ rfl (Runs.nil _ _) HC.out).mono ?_); rintro e w7 ⟨rfl, hb⟩
      have HB7 := hid (below_next HB5.out hb)
      obtain ⟨p0, p1, -⟩ := (HP0.out.next hb).read2
      obtain ⟨q0, q1, -⟩ := (HP1.out.next hb).read2
      clear hb
      go_wp2_with fail
      go_ret
      exact ⟨rfl, HB7.out⟩
    · have hz : 0 < ss.length := by rw [← HN.out]; exact h0
      obtain ⟨a, rfl, -, -⟩ := (HS.out.next HB3.out).at_ hz
      (with_reducible refine (bounds_ok a ss n c _ HN.out h0 (HS.out.next HB3.out) HC.out).mono ?_); rintro e w4 ⟨⟨r0, r1, e0, e1, rfl⟩, hb⟩
      obtain ⟨t1, t2, t3, t4⟩ := bds_all HC.out e0 (by rw [← HN.out]; exact e1)
      rw [t1, t2, t3, t4]
      have HB4 := hid (below_next HB3.out hb)
      clear hb t1 t2 t3 t4 e0 e1
      go_wp2_with fail
      obtain ⟨X0, hX0⟩ : ∃ X, X = lx 9000 ss := ⟨_, rfl⟩
      obtain ⟨Y0, hY0⟩ : ∃ X, X = ly 9000 ss := ⟨_, rfl⟩
      obtain ⟨X1, hX1⟩ : ∃ X, X = hx (-9000) ss := ⟨_, rfl⟩
      obtain ⟨Y1, hY1⟩ : ∃ X, X = hy (-9000) ss := ⟨_, rfl⟩
      rw [← hX0, ← hY0, ← hX1, ← hY1]
      have HX0 := hid hX0
      have HY0 := hid hY0
      have HX1 := hid hX1
      have HY1 := hid hY1
      clear hX0 hY0 hX1 hY1
      (with_reducible refine (rcheck_any (some a) ss n c _ HN.out HM.out (HS.out.next (below_alloc (below_alloc HB4.out _) _))).mono ?_); rintro e w5 ⟨rfl, hb⟩
      have HB5 := hid (show Below w.heap.size w w5 from below_next (below_alloc (below_alloc HB4.out _) _) hb)
      have HP0 := hid (((Var.new w4 (pcel ⟨X0, Y0⟩) 32 _ rfl).alloc (.cells (pcel ⟨X1, Y1⟩) 32)).next hb)
      have HP1 := hid ((Var.new (w4.alloc (.cells (pcel ⟨X0, Y0⟩) 32)) (pcel ⟨X1, Y1⟩) 32 (w4.heap.size + 1) (by simp)).next hb)
      rw [HC.out]
      clear hb
      go_wp2_with fail
      (with_reducible refine (rhas_any (some a) ss n c x y _ HN.out HM.out (HS.out.next HB5.out)).mono ?_); rintro e w6 ⟨rfl, rfl⟩
      generalize has ss x y = hv
      have hv' : (hv != hv) = false := by simp
      go_wp2_with fail
      (with_reducible refine (rarea_any (some a) ss n c _ HN.out (HS.out.next HB5.out) HC.out).mono ?_); rintro e w7 ⟨rfl, hb⟩
      have HB7 := hid (below_next HB5.out hb)
      have HQ0 := hid (HP0.out.next hb)
      have HQ1 := hid (HP1.out.next hb)
      generalize areaL ss = ar
      have ha' : (ar != ar) = false := by simp
      have hn1 : ¬ (n : Int) = 0 := by omega
      clear hb HB1 HB2 HB3 HB4 HB5 HP0 HP1
      go_wp2_with fail
      have HI := hid (show Var ((w7.alloc (.cells (pcel ⟨9000, 9000⟩) 32)).alloc (.cells (pcel ⟨-9000, -9000⟩) 32)) w7.heap.size (pcel ⟨lx 9000 (ss.take 0), ly 9000 (ss.take 0)⟩) 32 ∧ Var ((w7.alloc (.cells (pcel ⟨9000, 9000⟩) 32)).alloc (.cells (pcel ⟨-9000, -9000⟩) 32)) (w7.heap.size + 1) (pcel ⟨hx (-9000) (ss.take 0), hy (-9000) (ss.take 0)⟩) 32 ∧ Var ((w7.alloc (.cells (pcel ⟨9000, 9000⟩) 32)).alloc (.cells (pcel ⟨-9000, -9000⟩) 32)) w4.heap.size (pcel ⟨X0, Y0⟩) 32 ∧ Var ((w7.alloc (.cells (pcel ⟨9000, 9000⟩) 32)).alloc (.cells (pcel ⟨-9000, -9000⟩) 32)) (w4.heap.size + 1) (pcel ⟨X1, Y1⟩) 32 ∧ Below w.heap.size w ((w7.alloc (.cells (pcel ⟨9000, 9000⟩) 32)).alloc (.cells (pcel ⟨-9000, -9000⟩) 32)) from
        ⟨(Var.new w7 (pcel ⟨9000, 9000⟩) 32 _ rfl).alloc _, Var.new _ (pcel ⟨-9000, -9000⟩) 32 _ (by simp), (HQ0.out.alloc _).alloc _, (HQ1.out.alloc _).alloc _, below_alloc (below_alloc HB7.out _) _⟩)
      have h78 : w7.heap.size ≠ w7.heap.size + 1 := by omega
      have hl0 : w4.heap.size < w7.heap.size := HQ0.out.lt
      have hl1 : w4.heap.size + 1 < w7.heap.size := HQ1.out.lt
      have hw7 : w.heap.size ≤ w7.heap.size := HB7.out.size
      clear HQ0 HQ1 HB7
      go_loopw [112] (fun s112 wr => ∃ (j : Nat), j ≤ n ∧ s112 = .int .i64 j ∧ Hid (Var wr w7.heap.size (pcel ⟨lx 9000 (ss.take j), ly 9000 (ss.take j)⟩) 32 ∧ Var wr (w7.heap.size + 1) (pcel ⟨hx (-9000) (ss.take j), hy (-9000) (ss.take j)⟩) 32 ∧ Var wr w4.heap.size (pcel ⟨X0, Y0⟩) 32 ∧ Var wr (w4.heap.size + 1) (pcel ⟨X1, Y1⟩) 32 ∧ Below w.heap.size w wr)) (fun s112 _ => n - (intOf s112).toNat)
      case atStart => exact ⟨0, Nat.zero_le _, rfl, HI⟩
      case round =>
        obtain ⟨j, hj, rfl, HL⟩ := hrel
        clear HI
        by_cases hlt : j < n
        · have hlz : j < ss.length := by rw [← HN.out]; exact hlt
          obtain ⟨a', e1, hal3, hsa⟩ := (HS.out.next HL.out.2.2.2.2).at_ hlz
          cases e1
          have hyr := (show ((-8192 ≤ ss[j].y ∧ ss[j].y ≤ 8191) ∧ (-8192 ≤ ss[j].a ∧ ss[j].a ≤ 8192) ∧ (-8192 ≤ ss[j].b ∧ ss[j].b ≤ 8192)) ∧ ss[j].a < ss[j].b from (chk_all HC.out).1 _ (List.getElem_mem hlz)).1.1
          have HT := hid (show ss.take (j + 1) = ss.take j ++ [ss[j]] from List.take_succ_eq_append_getElem hlz)
          obtain ⟨r, hr⟩ : ∃ r, r = ss[j] := ⟨_, rfl⟩
          rw [← hr] at hsa HT hyr
          have HRJ := hid hr
          clear hr
          obtain ⟨hy1, hy2⟩ := hyr
          have G0 := hid (show lx 9000 (ss.take (j + 1)) = min (lx 9000 (ss.take j)) r.a by rw [HT.out]; unfold lx; rw [List.foldl_append]; rfl)
          have G1 := hid (show ly 9000 (ss.take (j + 1)) = min (ly 9000 (ss.take j)) r.y by rw [HT.out]; unfold ly; rw [List.foldl_append]; rfl)
          have G2 := hid (show hx (-9000) (ss.take (j + 1)) = max (hx (-9000) (ss.take j)) r.b by rw [HT.out]; unfold hx; rw [List.foldl_append]; rfl)
          have G3 := hid (show hy (-9000) (ss.take (j + 1)) = max (hy (-9000) (ss.take j)) (r.y + 1) by rw [HT.out]; unfold hy; rw [List.foldl_append]; rfl)
          obtain ⟨c0, c1, c2⟩ := hsa
          generalize lx 9000 (ss.take j) = P at HL G0
          generalize ly 9000 (ss.take j) = Q at HL G1
          generalize hx (-9000) (ss.take j) = R at HL G2
          generalize hy (-9000) (ss.take j) = S at HL G3
          have hji : (j : Int) < (n : Int) := by omega
          have hj0 : (0 : Int) ≤ (j : Int) := Int.natCast_nonneg _
          obtain ⟨p0, p1, pf⟩ := HL.out.1.read2
          have hlt2 := hlt
          have hnb : n ≤ 1000000000 := by rw [HN.out]; exact chk_len HC.out
          go_upto_region 17 with fail
          rename_i Kn hKn
          go_region
          refine hKn _ _ ?_
          have HL2 := hid (show Var (((wr.setCell ⟨w7.heap.size, 0, none⟩ (.int .i64 (min P r.a))).setCell ⟨w7.heap.size, 1, none⟩ (.int .i64 (min Q r.y))).drew) w7.heap.size (pcel ⟨min P r.a, min Q r.y⟩) 32 ∧ Var (((wr.setCell ⟨w7.heap.size, 0, none⟩ (.int .i64 (min P r.a))).setCell ⟨w7.heap.size, 1, none⟩ (.int .i64 (min Q r.y))).drew) (w7.heap.size + 1) (pcel ⟨R, S⟩) 32 ∧ Var (((wr.setCell ⟨w7.heap.size, 0, none⟩ (.int .i64 (min P r.a))).setCell ⟨w7.heap.size, 1, none⟩ (.int .i64 (min Q r.y))).drew) w4.heap.size (pcel ⟨X0, Y0⟩) 32 ∧ Var (((wr.setCell ⟨w7.heap.size, 0, none⟩ (.int .i64 (min P r.a))).setCell ⟨w7.heap.size, 1, none⟩ (.int .i64 (min Q r.y))).drew) (w4.heap.size + 1) (pcel ⟨X1, Y1⟩) 32 ∧ Below w.heap.size w (((wr.setCell ⟨w7.heap.size, 0, none⟩ (.int .i64 (min P r.a))).setCell ⟨w7.heap.size, 1, none⟩ (.int .i64 (min Q r.y))).drew) from
            ⟨((HL.out.1.set (i := 0) (.int .i64 (min P r.a))).set (i := 1) (.int .i64 (min Q r.y))).drew, ((HL.out.2.1.far (p := ⟨w7.heap.size, 0, none⟩) (by show w7.heap.size + 1 ≠ w7.heap.size; omega) (.int .i64 (min P r.a))).far (p := ⟨w7.heap.size, 1, none⟩) (by show w7.heap.size + 1 ≠ w7.heap.size; omega) (.int .i64 (min Q r.y))).drew, ((HL.out.2.2.1.far (p := ⟨w7.heap.size, 0, none⟩) (by show w4.heap.size ≠ w7.heap.size; omega) (.int .i64 (min P r.a))).far (p := ⟨w7.heap.size, 1, none⟩) (by show w4.heap.size ≠ w7.heap.size; omega) (.int .i64 (min Q r.y))).drew, ((HL.out.2.2.2.1.far (p := ⟨w7.heap.size, 0, none⟩) (by show w4.heap.size + 1 ≠ w7.heap.size; omega) (.int .i64 (min P r.a))).far (p := ⟨w7.heap.size, 1, none⟩) (by show w4.heap.size + 1 ≠ w7.heap.size; omega) (.int .i64 (min Q r.y))).drew, ((HL.out.2.2.2.2.setCell (p := ⟨w7.heap.size, 0, none⟩) (by show w.heap.size ≤ w7.heap.size; omega) (.int .i64 (min P r.a))).setCell (p := ⟨w7.heap.size, 1, none⟩) (by show w.heap.size ≤ w7.heap.size; omega) (.int .i64 (min Q r.y))).drew⟩)
          generalize (((wr.setCell ⟨w7.heap.size, 0, none⟩ (.int .i64 (min P r.a))).setCell ⟨w7.heap.size, 1, none⟩ (.int .i64 (min Q r.y))).drew) = W2 at HL2 ⊢
          clear hKn HL p0 p1 pf c0 c1 c2
          obtain ⟨a', e1, hal4, hsb⟩ := (HS.out.next HL2.out.2.2.2.2).at_ hlz
          cases e1
          rw [← HRJ.out] at hsb
          obtain ⟨c0, c1, c2⟩ := hsb
          obtain ⟨q0, q1, qf⟩ := HL2.out.2.1.read2
          go_upto_region 18 with fail
          rename_i Kn2 hKn2
          refine reg18 (R := R) (S := S) hlt2 hji hj0 hnb hy1 hy2 c0 c1 c2 q0 q1 qf ?_
          refine hKn2 _ _ ?_
          have HL3 := hid (show Var ((W2.drew.setCell ⟨w7.heap.size + 1, 0, none⟩ (.int .i64 (max R r.b))).setCell ⟨w7.heap.size + 1, 1, none⟩ (.int .i64 (max S (r.y + 1)))) w7.heap.size (pcel ⟨lx 9000 (ss.take (j + 1)), ly 9000 (ss.take (j + 1))⟩) 32 ∧ Var ((W2.drew.setCell ⟨w7.heap.size + 1, 0, none⟩ (.int .i64 (max R r.b))).setCell ⟨w7.heap.size + 1, 1, none⟩ (.int .i64 (max S (r.y + 1)))) (w7.heap.size + 1) (pcel ⟨hx (-9000) (ss.take (j + 1)), hy (-9000) (ss.take (j + 1))⟩) 32 ∧ Var ((W2.drew.setCell ⟨w7.heap.size + 1, 0, none⟩ (.int .i64 (max R r.b))).setCell ⟨w7.heap.size + 1, 1, none⟩ (.int .i64 (max S (r.y + 1)))) w4.heap.size (pcel ⟨X0, Y0⟩) 32 ∧ Var ((W2.drew.setCell ⟨w7.heap.size + 1, 0, none⟩ (.int .i64 (max R r.b))).setCell ⟨w7.heap.size + 1, 1, none⟩ (.int .i64 (max S (r.y + 1)))) (w4.heap.size + 1) (pcel ⟨X1, Y1⟩) 32 ∧ Below w.heap.size w ((W2.drew.setCell ⟨w7.heap.size + 1, 0, none⟩ (.int .i64 (max R r.b))).setCell ⟨w7.heap.size + 1, 1, none⟩ (.int .i64 (max S (r.y + 1)))) by
            rw [G0.out, G1.out, G2.out, G3.out]
            exact ⟨((HL2.out.1.drew.far (p := ⟨w7.heap.size + 1, 0, none⟩) (by show w7.heap.size ≠ w7.heap.size + 1; omega) (.int .i64 (max R r.b))).far (p := ⟨w7.heap.size + 1, 1, none⟩) (by show w7.heap.size ≠ w7.heap.size + 1; omega) (.int .i64 (max S (r.y + 1)))), ((HL2.out.2.1.drew.set (i := 0) (.int .i64 (max R r.b))).set (i := 1) (.int .i64 (max S (r.y + 1)))), ((HL2.out.2.2.1.drew.far (p := ⟨w7.heap.size + 1, 0, none⟩) (by show w4.heap.size ≠ w7.heap.size + 1; omega) (.int .i64 (max R r.b))).far (p := ⟨w7.heap.size + 1, 1, none⟩) (by show w4.heap.size ≠ w7.heap.size + 1; omega) (.int .i64 (max S (r.y + 1)))), ((HL2.out.2.2.2.1.drew.far (p := ⟨w7.heap.size + 1, 0, none⟩) (by show w4.heap.size + 1 ≠ w7.heap.size + 1; omega) (.int .i64 (max R r.b))).far (p := ⟨w7.heap.size + 1, 1, none⟩) (by show w4.heap.size + 1 ≠ w7.heap.size + 1; omega) (.int .i64 (max S (r.y + 1)))), ((HL2.out.2.2.2.2.drew.setCell (p := ⟨w7.heap.size + 1, 0, none⟩) (by show w.heap.size ≤ w7.heap.size + 1; omega) (.int .i64 (max R r.b))).setCell (p := ⟨w7.heap.size + 1, 1, none⟩) (by show w.heap.size ≤ w7.heap.size + 1; omega) (.int .i64 (max S (r.y + 1))))⟩)
          generalize ((W2.drew.setCell ⟨w7.heap.size + 1, 0, none⟩ (.int .i64 (max R r.b))).setCell ⟨w7.heap.size + 1, 1, none⟩ (.int .i64 (max S (r.y + 1)))) = W3 at HL3 ⊢
          clear hKn2 HL2 q0 q1 qf c0 c1 c2
          have hw1 : IntKind.i64.wrap ((j : Int) + 1) = ((j + 1 : Nat) : Int) := by rw [show ((j + 1 : Nat) : Int) = (j : Int) + 1 by omega]; exact IntWalk.i64_in _ (by omega)
          refine inc19 hw1 ?_
          clear hw1
          rename_i Qp
          dsimp only [Qp]
          refine then_norm ?_
          go_big_round
          refine ⟨?rel, ?measure⟩
          case rel => exact ⟨j + 1, by omega, rfl, HL3⟩
          case measure => simp only [intOf]; omega
        · obtain rfl : j = n := by omega
          rw [List.take_of_length_le (by have := HN.out; omega), ← HX0.out, ← HY0.out, ← HX1.out, ← HY1.out] at HL
          obtain ⟨p0, p1, -⟩ := HL.out.1.read2
          obtain ⟨q0, q1, -⟩ := HL.out.2.1.read2
          obtain ⟨u0, u1, -⟩ := HL.out.2.2.1.read2
          obtain ⟨v0, v1, -⟩ := HL.out.2.2.2.1.read2
          go_wp2_with fail
          go_ret
          exact ⟨rfl, HL.out.2.2.2.2⟩
  · have HC := hid hc
    (with_reducible refine (has_bad A ss n c x y _ HN.out HM.out (HS.out.next HB1.out) hc).mono ?_); rintro e w2 ⟨rfl, hb⟩
    have HB2 := hid (below_next HB1.out hb)
    clear hb
    go_wp2_with fail
    (with_reducible refine (area_bad A ss n c _ HN.out HM.out (HS.out.next HB2.out) hc).mono ?_); rintro e w3 ⟨rfl, hb⟩
    have HB3 := hid (below_next HB2.out hb)
    clear hb
    go_wp2_with fail
    (with_reducible refine (bounds_bad A ss n c _ HN.out HM.out (HS.out.next HB3.out) hc).mono ?_); rintro e w4 ⟨rfl, hb⟩
    have HB4 := hid (below_next HB3.out hb)
    clear hb
    go_wp2_with fail
    (with_reducible refine (rcheck_any A ss n c _ HN.out HM.out (HS.out.next (below_alloc (below_alloc HB4.out _) _))).mono ?_); rintro e w5 ⟨rfl, hb⟩
    have HB5 := hid (show Below w.heap.size w w5 from below_next (below_alloc (below_alloc HB4.out _) _) hb)
    have HP0 := hid (((Var.new w4 (pcel ⟨0, 0⟩) 32 _ rfl).alloc (.cells (pcel ⟨0, 0⟩) 32)).next hb)
    have HP1 := hid ((Var.new (w4.alloc (.cells (pcel ⟨0, 0⟩) 32)) (pcel ⟨0, 0⟩) 32 (w4.heap.size + 1) (by simp)).next hb)
    obtain ⟨p0, p1, -⟩ := HP0.out.read2
    obtain ⟨q0, q1, -⟩ := HP1.out.read2
    have hc' : (chk ss != 0) = true := by simpa using hc
    clear hb
    generalize chk ss = E at hc hc' ⊢
    go_wp2_with fail
    go_ret
    exact ⟨rfl, HB5.out⟩
end Go.Proofs.Ytjehmjcalapaiaa
