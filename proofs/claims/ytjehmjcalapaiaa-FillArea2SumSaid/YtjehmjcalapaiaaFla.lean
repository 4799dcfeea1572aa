/- The guard of the laws on filling, and the laws of Winding and Area2. -/
import Derived.Test.YtjehmjcalapaiaaRar
namespace Go.Proofs.Ytjehmjcalapaiaa
open Go Go.RowKit
set_option linter.unusedVariables false
set_option linter.unusedSimpArgs false

abbrev tri : List Ln := [⟨[⟨0, 0⟩, ⟨0, 4⟩, ⟨4, 4⟩], false⟩]
theorem pts_var {w : World} {b : Nat} {ps : List P2} {t : TypeId} (h : Var w b (ps.flatMap fun p => [.int .i64 p.x, .int .i64 p.y]).toArray t) : Pts w (some ⟨b, 0, none⟩) ps := fun _ => by
  refine ⟨_, rfl, h.lt, fun i s hi => ?_⟩
  have key : ∀ (ps : List P2) (i : Nat), ps[i]? = some s → (ps.flatMap fun p => [Value.int .i64 p.x, Value.int .i64 p.y])[i * 2]? = some (.int .i64 s.x) ∧ (ps.flatMap fun p => [Value.int .i64 p.x, Value.int .i64 p.y])[i * 2 + 1]? = some (.int .i64 s.y) := by
    intro ps
    induction ps with
    | nil => intro i h; cases h
    | cons p t ih =>
      intro i h
      cases i with
      | zero => cases h; exact ⟨rfl, rfl⟩
      | succ i =>
        rw [List.flatMap_cons, show (i + 1) * 2 = i * 2 + 2 by omega, show i * 2 + 2 + 1 = (i * 2 + 1) + 2 by omega]
        exact ih i h
  obtain ⟨k0, k1⟩ := key ps i hi
  have e : (⟨b, 0, none⟩ : Addr).add (i * 2) = ⟨b, i * 2, none⟩ := by unfold Addr.add; split <;> simp_all
  rw [e]
  exact ⟨(h.cell _).trans (by simpa using k0), (h.cell _).trans (by simpa using k1)⟩
theorem tri_any (w : World) : Calls Try.prog 68 #[] w fun e w' => e = .returned (.slice (some ⟨w.heap.size + 1, 0, none⟩) 1 1) ∧ Lns w' (some ⟨w.heap.size + 1, 0, none⟩) tri ∧ Below w.heap.size w w' := by
  go_enter Try.func68, Try.ntmps68
  go_wp2
  go_ret
  refine ⟨rfl, fun _ => ⟨_, rfl, by simp, fun i l hi => ?_⟩, below_alloc (below_alloc (Below.refl _ w) _) _⟩
  cases i with
  | succ i => cases hi
  | zero =>
    cases hi
    have hv := (Var.new w #[.int .i64 0, .int .i64 0, .int .i64 0, .int .i64 4, .int .i64 4, .int .i64 4] 32 _ rfl).alloc (.cells #[.slice (some ⟨w.heap.size, 0, none⟩) 3 3, .bool false] 30)
    have hv2 := Var.new (w.alloc (.cells #[.int .i64 0, .int .i64 0, .int .i64 0, .int .i64 4, .int .i64 4, .int .i64 4] 32)) #[.slice (some ⟨w.heap.size, 0, none⟩) 3 3, .bool false] 30 (w.heap.size + 1) (by simp)
    exact ⟨⟨_, 3, hv2.cell 0, pts_var (ps := [⟨0, 0⟩, ⟨0, 4⟩, ⟨4, 4⟩]) hv, by decide, by decide⟩, hv2.cell 1⟩

theorem tri_w0 : windF (edgesL tri) 0 1 = 1 := by decide +kernel
theorem tri_w1 : windF (edgesL tri) 1 1 = 0 := by decide +kernel
theorem tri_a : areaF (edgesL tri) = 16 := by decide +kernel
theorem tri_ok : lchk tri = 0 := by decide +kernel
theorem fills_any (w : World) : Calls Try.prog 29 #[] w fun e w' => e = .returned (.bool true) ∧ Below w.heap.size w w' := by
  go_enter Try.func29, Try.ntmps29
  go_wp2_with fail
  (with_reducible refine (tri_any _).mono ?_); rintro e w1 ⟨rfl, hl, hb⟩
  have HB1 := hid hb
  have HL1 := hid hl
  clear hb hl
  go_wp2_with fail
  (with_reducible refine (wind_ok _ tri 1 1 0 1 _ rfl (by decide) HL1.out tri_ok (by decide) (by decide)).mono ?_); rintro e w2 ⟨rfl, hb⟩
  rw [tri_w0]
  have HB2 := hid (below_next HB1.out hb)
  clear hb
  go_wp2_with fail
  (with_reducible refine (tri_any _).mono ?_); rintro e w3 ⟨rfl, hl, hb⟩
  have HB3 := hid (below_next HB2.out hb)
  have HL3 := hid hl
  clear hb hl
  go_wp2_with fail
  (with_reducible refine (wind_ok _ tri 1 1 1 1 _ rfl (by decide) HL3.out tri_ok (by decide) (by decide)).mono ?_); rintro e w4 ⟨rfl, hb⟩
  rw [tri_w1]
  have HB4 := hid (below_next HB3.out hb)
  clear hb
  go_wp2_with fail
  (with_reducible refine (tri_any _).mono ?_); rintro e w5 ⟨rfl, hl, hb⟩
  have HB5 := hid (below_next HB4.out hb)
  have HL5 := hid hl
  clear hb hl
  go_wp2_with fail
  (with_reducible refine (area2_ok _ tri 1 1 _ rfl (by decide) HL5.out tri_ok).mono ?_); rintro e w6 ⟨rfl, hb⟩
  rw [tri_a]
  have HB6 := hid (below_next HB5.out hb)
  clear hb
  go_wp2_with fail
  go_ret
  exact ⟨rfl, HB6.out⟩

theorem area_law (A : Option Addr) (n c : Nat) (ls : List Ln) (w : World) (hn : n = ls.length) (hs : Lns w A ls) (hm : n ≤ maxLen) :
    Calls Try.prog 10 #[.slice A n c] w fun e w' => e = .returned (.bool true) ∧ Below w.heap.size w w' := by
  have HS := hid hs
  have HN := hid hn
  have HM := hid hm
  clear hs hn hm
  go_enter Try.func10, Try.ntmps10
  go_wp2_with fail
  (with_reducible refine (fills_any _).mono ?_); rintro e w1 ⟨rfl, hb⟩
  have HB1 := hid hb
  clear hb
  go_wp2_with fail
  by_cases h : lchk ls = 0
  · (with_reducible refine (area2_ok A ls n c _ HN.out HM.out (HS.out.next HB1.out) h).mono ?_); rintro e w2 ⟨rfl, hb⟩
    have HB2 := hid (below_next HB1.out hb)
    clear hb
    go_wp2_with fail
    (with_reducible refine (rlcheck_any A ls n c _ HN.out HM.out (HS.out.next HB2.out)).mono ?_); rintro e w3 ⟨rfl, hb⟩
    have HB3 := hid (below_next HB2.out hb)
    have H0 := hid h
    rw [h]
    clear hb h
    go_wp2_with fail
    (with_reducible refine (rarea2_any A ls n c _ HN.out HM.out (HS.out.next HB3.out) H0.out).mono ?_); rintro e w4 ⟨rfl, hb⟩
    have HB4 := hid (below_next HB3.out hb)
    clear hb
    generalize areaF (edgesL ls) = Z
    go_wp2_with fail
    go_ret
    exact ⟨by simp, HB4.out⟩
  · have hne : (lchk ls != 0) = true := by simpa using h
    (with_reducible refine (area2_bad A ls n c _ HN.out HM.out (HS.out.next HB1.out) h).mono ?_); rintro e w2 ⟨rfl, hb⟩
    have HB2 := hid (below_next HB1.out hb)
    clear hb
    go_wp2_with fail
    (with_reducible refine (rlcheck_any A ls n c _ HN.out HM.out (HS.out.next HB2.out)).mono ?_); rintro e w3 ⟨rfl, hb⟩
    have HB3 := hid (below_next HB2.out hb)
    clear hb
    generalize lchk ls = Z at h hne ⊢
    go_wp2_with fail
    go_ret
    exact ⟨by simp, HB3.out⟩

theorem wind_law (A : Option Addr) (n c : Nat) (ls : List Ln) (x y : Int) (w : World) (hn : n = ls.length) (hs : Lns w A ls) (hm : n ≤ maxLen) :
    Calls Try.prog 8 #[.slice A n c, .int .i64 x, .int .i64 y] w fun e w' => e = .returned (.bool true) ∧ Below w.heap.size w w' := by
  have HS := hid hs
  have HN := hid hn
  have HM := hid hm
  clear hs hn hm
  go_enter Try.func8, Try.ntmps8
  go_wp2_with fail
  (with_reducible refine (fills_any _).mono ?_); rintro e w1 ⟨rfl, hb⟩
  have HB1 := hid hb
  clear hb
  go_wp2_with fail
  by_cases h : lchk ls = 0
  · by_cases hp : (-8192 ≤ x ∧ x ≤ 8191) ∧ -8192 ≤ y ∧ y ≤ 8191
    · (with_reducible refine (wind_ok A ls n c x y _ HN.out HM.out (HS.out.next HB1.out) h hp.1 hp.2).mono ?_); rintro e w2 ⟨rfl, hb⟩
      have HB2 := hid (below_next HB1.out hb)
      clear hb
      go_wp2_with fail
      (with_reducible refine (rlcheck_any A ls n c _ HN.out HM.out (HS.out.next HB2.out)).mono ?_); rintro e w3 ⟨rfl, hb⟩
      have HB3 := hid (below_next HB2.out hb)
      have H0 := hid h
      rw [h]
      clear hb h
      go_wp2_with fail
      (with_reducible refine (rperm_any x y _).mono ?_); rintro e w3 ⟨rfl, rfl⟩
      rw [show okC x y = true by unfold okC; rw [inB_yes hp.1, inB_yes hp.2]; rfl]
      have HP := hid hp
      clear hp
      go_wp2_with fail
      (with_reducible refine (rwind_any A ls n c x y _ HN.out HM.out (HS.out.next HB3.out) H0.out HP.out.1).mono ?_); rintro e w4 ⟨rfl, hb⟩
      have HB4 := hid (below_next HB3.out hb)
      clear hb
      generalize windF (edgesL ls) x y = Z
      go_wp2_with fail
      go_ret
      exact ⟨by simp, HB4.out⟩
    · (with_reducible refine (wind_out A ls n c x y _ HN.out HM.out (HS.out.next HB1.out) h hp).mono ?_); rintro e w2 ⟨rfl, hb⟩
      have HB2 := hid (below_next HB1.out hb)
      clear hb
      go_wp2_with fail
      (with_reducible refine (rlcheck_any A ls n c _ HN.out HM.out (HS.out.next HB2.out)).mono ?_); rintro e w3 ⟨rfl, hb⟩
      have HB3 := hid (below_next HB2.out hb)
      rw [h]
      clear hb h
      go_wp2_with fail
      (with_reducible refine (rperm_any x y _).mono ?_); rintro e w3 ⟨rfl, rfl⟩
      rw [show okC x y = false by
        unfold okC
        by_cases k : -8192 ≤ x ∧ x ≤ 8191
        · rw [inB_no (fun k2 => hp ⟨k, k2⟩), Bool.and_false]
        · rw [inB_no k, Bool.false_and]]
      clear hp
      go_wp2_with fail
      go_ret
      exact ⟨by simp, HB3.out⟩
  · have hne : (lchk ls != 0) = true := by simpa using h
    have hne2 : (lchk ls == 0) = false := by simpa using h
    (with_reducible refine (wind_bad A ls n c x y _ HN.out HM.out (HS.out.next HB1.out) h).mono ?_); rintro e w2 ⟨rfl, hb⟩
    have HB2 := hid (below_next HB1.out hb)
    clear hb
    go_wp2_with fail
    (with_reducible refine (rlcheck_any A ls n c _ HN.out HM.out (HS.out.next HB2.out)).mono ?_); rintro e w3 ⟨rfl, hb⟩
    have HB3 := hid (below_next HB2.out hb)
    clear hb
    generalize lchk ls = Z at h hne hne2 ⊢
    go_wp2_with fail
    go_ret
    exact ⟨by simp, HB3.out⟩
end Go.Proofs.Ytjehmjcalapaiaa
