/- The guard of the laws on filling, and the laws of Winding and Area2. -/
import Derived.Test.YtijkoaggcmgjiaaRar
namespace Go.Proofs.Ytijkoaggcmgjiaa
open Go Go.RowKit
set_option linter.unusedVariables false
set_option linter.unusedSimpArgs false

abbrev tri : List Ln := [⟨[⟨0, 0⟩, ⟨0, 4⟩, ⟨4, 4⟩], false⟩]
theorem pts_var {w : World} {b : Nat} {ps : List P2} {t : TypeId} (h : Var w b (ps.flatMap fun p => [.int .i64 p.x, .int .i64 p.y]).toArray t) : Pts w (some ⟨b, 0, none⟩) ps := fun _ => by
  refine ⟨_, rfl, h.lt, fun i s hi => ?_⟩
  have key : ∀ (ps : List P2) (i : Nat), ps[i]? = some s → (ps.flatMap fun p => [Value.int .i64 p.x, Value.int .i64 p.y])[i * 2]? = some (.int .i64 s.x) ∧ (ps.flatMap fun p => [Value.int .i64 p.x, Value.int .i64 p.y])[i * 2 + 1]? = some (.int .i64 s.y) := by
    intro ps
    induction ps with
    | nil => intro i h; cases h
    | cons p t ih =>
      intro i h
      cases i with
      | zero => cases h; exact ⟨rfl, rfl⟩
      | succ i =>
        rw [List.flatMap_cons, show (i + 1) * 2 = i * 2 + 2 by omega, show i * 2 + 2 + 1 = (i * 2 + 1) + 2 by omega]
        exact ih i h
  obtain ⟨k0, k1⟩ := key ps i hi
  have e : (⟨b, 0, none⟩ : Addr).add (i * 2) = ⟨b, i * 2, none⟩ := by unfold Addr.add; split <;> simp_all
  rw [e]
  exact ⟨(h.cell _).trans (by simpa using k0), (h.cell _).trans (by simpa using k1)⟩
theorem tri_any (w : World) : Calls Try.prog 41 #[] w fun e w' => e = .returned (.slice (some ⟨w.heap.size + 1, 0, none⟩) 1 1) ∧ Lns w' (some ⟨w.heap.size + 1, 0, none⟩) tri ∧ Below w.heap.size w w' := by
  go_enter Try.func41, Try.ntmps41
  go_wp2
  go_ret
  refine ⟨rfl, fun _ => ⟨_, rfl, by simp, fun i l hi => ?_⟩, below_alloc (below_alloc (Below.refl _ w) _) _⟩
  cases i with
  | succ i => cases hi
  | zero =>
    cases hi
    have hv := (Var.new w #[.int .i64 0, .int .i64 0, .int .i64 0, .int .i64 4, .int .i64 4, .int .i64 4] 40 _ rfl).alloc (.cells #[.slice (some ⟨w.heap.size, 0, none⟩) 3 3, .bool false] 38)
    have hv2 := Var.new (w.alloc (.cells #[.int .i64 0, .int .i64 0, .int .i64 0, .int .i64 4, .int .i64 4, .int .i64 4] 40)) #[.slice (some ⟨w.heap.size, 0, none⟩) 3 3, .bool false] 38 (w.heap.size + 1) (by simp)
    exact ⟨⟨_, 3, hv2.cell 0, pts_var (ps := [⟨0, 0⟩, ⟨0, 4⟩, ⟨4, 4⟩]) hv, by decide, by decide⟩, hv2.cell 1⟩

theorem tri_w0 : windF (edgesL tri) 0 1 = 1 := by decide +kernel
theorem tri_w1 : windF (edgesL tri) 1 1 = 0 := by decide +kernel
theorem tri_a : areaF (edgesL tri) = 16 := by decide +kernel
theorem tri_ok : lchk tri = 0 := by decide +kernel
theorem fills_any (w : World) : Calls Try.prog 11 #[] w fun e w' => e = .returned (.bool true) ∧ Below w.heap.size w w' := by
  go_enter Try.func11, Try.ntmps11
  go_wp2_with fail
  (with_reducible refine (tri_any _).mono ?_); rintro e w1 ⟨rfl, hl, hb⟩
  have HB1 := hid hb
  have HL1 := hid hl
  clear hb hl
  go_wp2_with fail
  (with_reducible refine (wind_ok _ tri 1 1 0 1 _ rfl (by decide) HL1.out tri_ok (by decide) (by decide)).mono ?_); rintro e w2 ⟨rfl, hb⟩
  rw [tri_w0]
  have HB2 := hid (below_next HB1.out hb)
  clear hb
  go_wp2_with fail
  (with_reducible refine (tri_any _).mono ?_); rintro e w3 ⟨rfl, hl, hb⟩
  have HB3 := hid (below_next HB2.out hb)
  have HL3 := hid hl
  clear hb hl
  go_wp2_with fail
  (with_reducible refine (wind_ok _ tri 1 1 1 1 _ rfl (by decide) HL3.out tri_ok (by decide) (by decide)).mono ?_); rintro e w4 ⟨rfl, hb⟩
  rw [tri_w1]
  have HB4 := hid (below_next HB3.out hb)
  clear hb
  go_wp2_with fail
  (with_reducible refine (tri_any _).mono ?_); rintro e w5 ⟨rfl, hl, hb⟩
  have HB5 := hid (below_next HB4.out hb)
  have HL5 := hid hl
  clear hb hl
  go_wp2_with fail
  (with_reducible refine (area2_ok _ tri 1 1 _ rfl (by decide) HL5.out tri_ok).mono ?_); rintro e w6 ⟨rfl, hb⟩
  rw [tri_a]
  have HB6 := hid (below_next HB5.out hb)
  clear hb
  go_wp2_with fail
  go_ret
  exact ⟨rfl, HB6.out⟩

end Go.Proofs.Ytijkoaggcmgjiaa
