/- The statement AffineQuarters returns true for all ints j, k, dx and dy; there is no further condition. -/
import Derived.Test.YtdelhelfphblcaaRows
import Derived.WalkKit
import Derived.ProofKit
import Derived.OpenShut
import Derived.ChangeOld
import Derived.Below
import Derived.Test.YtdelhelfphblcaaOpen
import Derived.Test.YtdelhelfphblcaaTests
import Derived.Test.YtdelhelfphblcaaMaps
import Derived.Test.YtdelhelfphblcaaThen
namespace Go.Proofs.Ytdelhelfphblcaa.affineQuarters
open Go Go.ChangeShapes Go.WideShapes Go.ChangeAt Go.RowKit Go.Deep
set_option linter.unusedVariables false

theorem known_then {a b c d a' b' c' d' p q r s : Int} (h1 : Good a b c d 0 0 ∧ Good a' b' c' d' 0 0) (h2 : Good p q r s 0 0)
    (h3 : mx (rnd (a' * a + c' * b) 4096) (rnd (b' * a + d' * b) 4096) (rnd (a' * c + c' * d) 4096) (rnd (b' * c + d' * d) 4096) (rnd (a' * 0 + c' * 0) 4096 + 0) (rnd (b' * 0 + d' * 0) 4096 + 0) = mx p q r s 0 0) :
    ThenIs a b c d 0 0 a' b' c' d' 0 0 (mx p q r s 0 0) 0 := by
  unfold ThenIs
  rw [err2_yes h1]
  obtain ⟨e0, e1, e2, e3, e4, e5⟩ := mx_inj h3
  rw [e0, e1, e2, e3, e4, e5]
  exact ⟨fun _ _ => ⟨rfl, rfl⟩, fun _ h => absurd h2 h, fun h => absurd rfl h⟩

theorem then_turn (j k : Int) : ∃ a b c d a' b' c' d' p q r s : Int, Turn (j % 4) (mx a b c d 0 0) ∧ Turn (k % 4) (mx a' b' c' d' 0 0) ∧ Turn ((j + k) % 4) (mx p q r s 0 0) ∧ ThenIs a b c d 0 0 a' b' c' d' 0 0 (mx p q r s 0 0) 0 := by
  have e : (j + k) % 4 = (j % 4 + k % 4) % 4 := by omega
  have hj : j % 4 = 0 ∨ j % 4 = 1 ∨ j % 4 = 2 ∨ j % 4 = 3 := by omega
  have hk : k % 4 = 0 ∨ k % 4 = 1 ∨ k % 4 = 2 ∨ k % 4 = 3 := by omega
  rw [e]
  rcases hj with h | h | h | h <;> rcases hk with h' | h' | h' | h' <;> rw [h, h']
  · exact ⟨4096, 0, 0, 4096, 4096, 0, 0, 4096, 4096, 0, 0, 4096, by unfold Turn; exact .inl ⟨rfl, rfl⟩, by unfold Turn; exact .inl ⟨rfl, rfl⟩, by unfold Turn; exact .inl ⟨rfl, rfl⟩, known_then (by decide) (by decide) rfl⟩
  · exact ⟨4096, 0, 0, 4096, 0, 4096, (-4096), 0, 0, 4096, (-4096), 0, by unfold Turn; exact .inl ⟨rfl, rfl⟩, by unfold Turn; exact .inr (.inl ⟨rfl, rfl⟩), by unfold Turn; exact .inr (.inl ⟨rfl, rfl⟩), known_then (by decide) (by decide) rfl⟩
  · exact ⟨4096, 0, 0, 4096, (-4096), 0, 0, (-4096), (-4096), 0, 0, (-4096), by unfold Turn; exact .inl ⟨rfl, rfl⟩, by unfold Turn; exact .inr (.inr (.inl ⟨rfl, rfl⟩)), by unfold Turn; exact .inr (.inr (.inl ⟨rfl, rfl⟩)), known_then (by decide) (by decide) rfl⟩
  · exact ⟨4096, 0, 0, 4096, 0, (-4096), 4096, 0, 0, (-4096), 4096, 0, by unfold Turn; exact .inl ⟨rfl, rfl⟩, by unfold Turn; exact .inr (.inr (.inr ⟨rfl, rfl⟩)), by unfold Turn; exact .inr (.inr (.inr ⟨rfl, rfl⟩)), known_then (by decide) (by decide) rfl⟩
  · exact ⟨0, 4096, (-4096), 0, 4096, 0, 0, 4096, 0, 4096, (-4096), 0, by unfold Turn; exact .inr (.inl ⟨rfl, rfl⟩), by unfold Turn; exact .inl ⟨rfl, rfl⟩, by unfold Turn; exact .inr (.inl ⟨rfl, rfl⟩), known_then (by decide) (by decide) rfl⟩
  · exact ⟨0, 4096, (-4096), 0, 0, 4096, (-4096), 0, (-4096), 0, 0, (-4096), by unfold Turn; exact .inr (.inl ⟨rfl, rfl⟩), by unfold Turn; exact .inr (.inl ⟨rfl, rfl⟩), by unfold Turn; exact .inr (.inr (.inl ⟨rfl, rfl⟩)), known_then (by decide) (by decide) rfl⟩
  · exact ⟨0, 4096, (-4096), 0, (-4096), 0, 0, (-4096), 0, (-4096), 4096, 0, by unfold Turn; exact .inr (.inl ⟨rfl, rfl⟩), by unfold Turn; exact .inr (.inr (.inl ⟨rfl, rfl⟩)), by unfold Turn; exact .inr (.inr (.inr ⟨rfl, rfl⟩)), known_then (by decide) (by decide) rfl⟩
  · exact ⟨0, 4096, (-4096), 0, 0, (-4096), 4096, 0, 4096, 0, 0, 4096, by unfold Turn; exact .inr (.inl ⟨rfl, rfl⟩), by unfold Turn; exact .inr (.inr (.inr ⟨rfl, rfl⟩)), by unfold Turn; exact .inl ⟨rfl, rfl⟩, known_then (by decide) (by decide) rfl⟩
  · exact ⟨(-4096), 0, 0, (-4096), 4096, 0, 0, 4096, (-4096), 0, 0, (-4096), by unfold Turn; exact .inr (.inr (.inl ⟨rfl, rfl⟩)), by unfold Turn; exact .inl ⟨rfl, rfl⟩, by unfold Turn; exact .inr (.inr (.inl ⟨rfl, rfl⟩)), known_then (by decide) (by decide) rfl⟩
  · exact ⟨(-4096), 0, 0, (-4096), 0, 4096, (-4096), 0, 0, (-4096), 4096, 0, by unfold Turn; exact .inr (.inr (.inl ⟨rfl, rfl⟩)), by unfold Turn; exact .inr (.inl ⟨rfl, rfl⟩), by unfold Turn; exact .inr (.inr (.inr ⟨rfl, rfl⟩)), known_then (by decide) (by decide) rfl⟩
  · exact ⟨(-4096), 0, 0, (-4096), (-4096), 0, 0, (-4096), 4096, 0, 0, 4096, by unfold Turn; exact .inr (.inr (.inl ⟨rfl, rfl⟩)), by unfold Turn; exact .inr (.inr (.inl ⟨rfl, rfl⟩)), by unfold Turn; exact .inl ⟨rfl, rfl⟩, known_then (by decide) (by decide) rfl⟩
  · exact ⟨(-4096), 0, 0, (-4096), 0, (-4096), 4096, 0, 0, 4096, (-4096), 0, by unfold Turn; exact .inr (.inr (.inl ⟨rfl, rfl⟩)), by unfold Turn; exact .inr (.inr (.inr ⟨rfl, rfl⟩)), by unfold Turn; exact .inr (.inl ⟨rfl, rfl⟩), known_then (by decide) (by decide) rfl⟩
  · exact ⟨0, (-4096), 4096, 0, 4096, 0, 0, 4096, 0, (-4096), 4096, 0, by unfold Turn; exact .inr (.inr (.inr ⟨rfl, rfl⟩)), by unfold Turn; exact .inl ⟨rfl, rfl⟩, by unfold Turn; exact .inr (.inr (.inr ⟨rfl, rfl⟩)), known_then (by decide) (by decide) rfl⟩
  · exact ⟨0, (-4096), 4096, 0, 0, 4096, (-4096), 0, 4096, 0, 0, 4096, by unfold Turn; exact .inr (.inr (.inr ⟨rfl, rfl⟩)), by unfold Turn; exact .inr (.inl ⟨rfl, rfl⟩), by unfold Turn; exact .inl ⟨rfl, rfl⟩, known_then (by decide) (by decide) rfl⟩
  · exact ⟨0, (-4096), 4096, 0, (-4096), 0, 0, (-4096), 0, 4096, (-4096), 0, by unfold Turn; exact .inr (.inr (.inr ⟨rfl, rfl⟩)), by unfold Turn; exact .inr (.inr (.inl ⟨rfl, rfl⟩)), by unfold Turn; exact .inr (.inl ⟨rfl, rfl⟩), known_then (by decide) (by decide) rfl⟩
  · exact ⟨0, (-4096), 4096, 0, 0, (-4096), 4096, 0, (-4096), 0, 0, (-4096), by unfold Turn; exact .inr (.inr (.inr ⟨rfl, rfl⟩)), by unfold Turn; exact .inr (.inr (.inr ⟨rfl, rfl⟩)), by unfold Turn; exact .inr (.inr (.inl ⟨rfl, rfl⟩)), known_then (by decide) (by decide) rfl⟩

theorem then_shift (x y : Int) (hx : -9000 ≤ x ∧ x ≤ 9000) (hy : -9000 ≤ y ∧ y ≤ 9000) :
    ThenIs 4096 0 0 4096 (4096 * x) (4096 * y) 4096 0 0 4096 (4096 * y) (4096 * x) (mx 4096 0 0 4096 (4096 * (x + y)) (4096 * (x + y))) 0 := by
  have g : ∀ p q : Int, -18000 ≤ p ∧ p ≤ 18000 → -18000 ≤ q ∧ q ≤ 18000 → Good 4096 0 0 4096 (4096 * p) (4096 * q) := fun p q hp hq =>
    ⟨wi4.2 (by omega), wi2.2 (by omega)⟩
  unfold ThenIs
  rw [err2_yes ⟨g x y (by omega) (by omega), g y x (by omega) (by omega)⟩]
  have e0 : rnd (4096 * 4096 + 0 * 0) 4096 = 4096 := rfl
  have e1 : rnd (0 * 4096 + 4096 * 0) 4096 = 0 := rfl
  have e2 : rnd (4096 * 0 + 0 * 4096) 4096 = 0 := rfl
  have e3 : rnd (0 * 0 + 4096 * 4096) 4096 = 4096 := rfl
  have e4 : rnd (4096 * (4096 * x) + 0 * (4096 * y)) 4096 + 4096 * y = 4096 * (x + y) := by unfold rnd; omega
  have e5 : rnd (0 * (4096 * x) + 4096 * (4096 * y)) 4096 + 4096 * x = 4096 * (x + y) := by unfold rnd; omega
  rw [e0, e1, e2, e3, e4, e5]
  exact ⟨fun _ _ => ⟨rfl, rfl⟩, fun _ h => absurd (g (x + y) (x + y) (by omega) (by omega)) h, fun h => absurd rfl h⟩

theorem quarter_over {W : World} {u : Value} {X' k : Int} {V : Value} {g : Bool} {w : World} (h : Over W g w) (hu : u = .int .i64 X') (hX : X' = k) (hk : -18 ≤ k ∧ k ≤ 18) (hV : Turn (k % 4) V) :
    Calls Try.prog 16 #[u] w fun r w' => r = .returned V ∧ Over W g w' := by
  subst hu hX
  exact (quarter_any _ V w hk hV).mono fun r w' ⟨hr, hb⟩ => ⟨hr, h.next hb⟩

set_option maxHeartbeats 1000000 in
theorem rest (j0 k0 x0 y0 : Int) (w : World) : Calls Try.prog 5 #[.int .i64 j0, .int .i64 k0, .int .i64 x0, .int .i64 y0] w fun r w' => r = .returned (.bool true) ∧ Below w.heap.size w w' := by
  go_enter Try.func5, Try.ntmps5
  go_wp2_with fail
  (with_reducible refine (maps_any _).mono ?_); rintro e0 w1 ⟨rfl, hb⟩
  have HB1 := hid hb
  clear hb
  go_wp2_with fail
  (with_reducible refine (cut_in j0 (-9) 9 _ (by omega) (by omega) (by omega) (by omega)).mono ?_); rintro e0 z1 ⟨j, j1, j2, rfl, rfl⟩
  go_wp2_with fail
  (with_reducible refine (cut_in k0 (-9) 9 _ (by omega) (by omega) (by omega) (by omega)).mono ?_); rintro e0 z1 ⟨k, k1, k2, rfl, rfl⟩
  go_wp2_with fail
  (with_reducible refine (cut_in x0 (-9000) 9000 _ (by omega) (by omega) (by omega) (by omega)).mono ?_); rintro e0 z1 ⟨x, x1, x2, rfl, rfl⟩
  go_wp2_with fail
  (with_reducible refine (cut_in y0 (-9000) 9000 _ (by omega) (by omega) (by omega) (by omega)).mono ?_); rintro e0 z1 ⟨y, y1, y2, rfl, rfl⟩
  obtain ⟨a, b, c, d, a', b', c', d', p, q, r, s, t1, t2, t3, t4⟩ := then_turn j k
  have T1 := hid t1
  have T2 := hid t2
  have T3 := hid t3
  have T4 := hid t4
  clear t1 t2 t3 t4
  go_wp2_with fail
  (with_reducible refine (quarter_any j _ _ (by omega) T1.out).mono ?_); rintro e0 w3 ⟨rfl, hb⟩
  have HB3 := hid (below_next HB1.out hb)
  clear hb HB1
  go_wp2_with fail
  (with_reducible refine (quarter_any k _ _ (by omega) T2.out).mono ?_); rintro e0 w4 ⟨rfl, hb⟩
  have HB4 := hid (below_next HB3.out hb)
  clear hb HB3
  go_wp2_with fail
  (with_reducible refine (then_any _ _ _ _ _ _ _ _ _ _ _ _ _ _ _ _ _ _ _ _ T4.out).mono ?_); rintro e0 w5 ⟨rfl, hb⟩
  have HA5 := hid (Var.new w5 #[.int .i64 p, .int .i64 q, .int .i64 r, .int .i64 s, .int .i64 0, .int .i64 0] 23 _ rfl)
  have HB5 := hid (below_alloc (below_next HB4.out hb) (.cells #[.int .i64 p, .int .i64 q, .int .i64 r, .int .i64 s, .int .i64 0, .int .i64 0] 23))
  clear hb HB4
  go_wp2_with fail
  (with_reducible refine (shift_ok x y _ (wi2.2 (by omega))).mono ?_); rintro e0 w6 ⟨rfl, hb⟩
  have HA6 := hid ((HA5.out.next hb).alloc (.cells #[.int .i64 4096, .int .i64 0, .int .i64 0, .int .i64 4096, .int .i64 (4096 * x), .int .i64 (4096 * y)] 23))
  have HS6 := hid (Var.new w6 #[.int .i64 4096, .int .i64 0, .int .i64 0, .int .i64 4096, .int .i64 (4096 * x), .int .i64 (4096 * y)] 23 _ rfl)
  have HB6 := hid (below_alloc (below_next HB5.out hb) (.cells #[.int .i64 4096, .int .i64 0, .int .i64 0, .int .i64 4096, .int .i64 (4096 * x), .int .i64 (4096 * y)] 23))
  clear hb HA5 HB5
  go_wp2_with fail
  (with_reducible refine (shift_ok y x _ (wi2.2 (by omega))).mono ?_); rintro e0 w7 ⟨rfl, hb⟩
  have HA7 := hid ((HA6.out.next hb).alloc (.cells #[.int .i64 4096, .int .i64 0, .int .i64 0, .int .i64 4096, .int .i64 (4096 * y), .int .i64 (4096 * x)] 23))
  have HS7 := hid ((HS6.out.next hb).alloc (.cells #[.int .i64 4096, .int .i64 0, .int .i64 0, .int .i64 4096, .int .i64 (4096 * y), .int .i64 (4096 * x)] 23))
  have HT7 := hid (Var.new w7 #[.int .i64 4096, .int .i64 0, .int .i64 0, .int .i64 4096, .int .i64 (4096 * y), .int .i64 (4096 * x)] 23 _ rfl)
  have HB7 := hid (below_alloc (below_next HB6.out hb) (.cells #[.int .i64 4096, .int .i64 0, .int .i64 0, .int .i64 4096, .int .i64 (4096 * y), .int .i64 (4096 * x)] 23))
  have HN := hid (HS6.out.next hb)
  have n6 := HN.out.lt
  obtain ⟨p0, p1, p2, p3, p4, p5, pf⟩ := HN.out.read6
  clear hb HA6 HB6 HS6
  go_wp2_with fail
  clear p0 p1 p2 p3 p4 p5 pf
  (with_reducible refine (then_any _ _ _ _ _ _ _ _ _ _ _ _ _ _ _ _ _ _ _ _ (then_shift x y (by omega) (by omega))).mono ?_); rintro e0 w8 ⟨rfl, hb⟩
  have HA8 := hid ((HA7.out.next hb).alloc (.cells #[.int .i64 4096, .int .i64 0, .int .i64 0, .int .i64 4096, .int .i64 (4096 * (x + y)), .int .i64 (4096 * (x + y))] 23))
  have HU8 := hid (Var.new w8 #[.int .i64 4096, .int .i64 0, .int .i64 0, .int .i64 4096, .int .i64 (4096 * (x + y)), .int .i64 (4096 * (x + y))] 23 _ rfl)
  have HB8 := hid (below_alloc (below_next HB7.out hb) (.cells #[.int .i64 4096, .int .i64 0, .int .i64 0, .int .i64 4096, .int .i64 (4096 * (x + y)), .int .i64 (4096 * (x + y))] 23))
  clear hb HA7 HS7 HT7 HB7 HN
  go_wp2_with fail
  (with_reducible refine (shift_ok (x + y) (x + y) _ (wi2.2 (by omega))).mono ?_); rintro e0 w9 ⟨rfl, hb⟩
  have HA9 := hid ((HA8.out.next hb).alloc (.cells #[.int .i64 4096, .int .i64 0, .int .i64 0, .int .i64 4096, .int .i64 (4096 * (x + y)), .int .i64 (4096 * (x + y))] 23))
  have HU9 := hid ((HU8.out.next hb).alloc (.cells #[.int .i64 4096, .int .i64 0, .int .i64 0, .int .i64 4096, .int .i64 (4096 * (x + y)), .int .i64 (4096 * (x + y))] 23))
  have HV9 := hid (Var.new w9 #[.int .i64 4096, .int .i64 0, .int .i64 0, .int .i64 4096, .int .i64 (4096 * (x + y)), .int .i64 (4096 * (x + y))] 23 _ rfl)
  have HB9 := hid (below_alloc (below_next HB8.out hb) (.cells #[.int .i64 4096, .int .i64 0, .int .i64 0, .int .i64 4096, .int .i64 (4096 * (x + y)), .int .i64 (4096 * (x + y))] 23))
  clear hb HA8 HU8 HB8
  go_upto_region 9 with fail
  generalize w9.alloc (.cells #[.int .i64 4096, .int .i64 0, .int .i64 0, .int .i64 4096, .int .i64 (4096 * (x + y)), .int .i64 (4096 * (x + y))] 23) = v6 at HA9 HU9 HV9 HB9
  rename_i Kn hKn
  refine wp_region_fan 19 1000 (Over v6) (by kernel_rfl) (by kernel_rfl) (Over.start v6) ?_
  simp only [List.take_succ_cons, List.take_zero, List.drop_succ_cons, List.drop_zero]
  have L9 := fun b w1 (h : Over v6 b w1) => h.var HA9.out
  have L15 := fun b w1 (h : Over v6 b w1) => h.var HU9.out
  have L17 := fun b w1 (h : Over v6 b w1) => h.var HV9.out
  have hjk : IntKind.i64.wrap (j + k) = j + k := wrap_id (by omega)
  have hjk2 : -18 ≤ j + k ∧ j + k ≤ 18 := by omega
  refine WalksE.sound _ _ _ _ ?_ ((((((((Is.start _ (n := 84) rfl).pin 9 (v := .pointer (some ⟨w5.heap.size, 0, none⟩)) rfl).pin 15 (v := .pointer (some ⟨w8.heap.size, 0, none⟩)) rfl).pin 17 (v := .pointer (some ⟨w9.heap.size, 0, none⟩)) rfl).pin 0 (v := .int .i64 j) rfl).pin 1 (v := .int .i64 k) rfl).pin 10 (v := .int .i64 0) rfl).pin 16 (v := .int .i64 0) rfl)
  generalize (fun i => Array.getD _ i undef) = g
  refine walks_with fun KQ hKQ => ?_
  (refine walks_one fun K hK => ?_); refine st_pure rfl rfl (fun _ => rfl) ?_; refine hK _ ?_; clear hK K
  (refine walks_one fun K hK => ?_); refine st_pure rfl rfl (fun _ => run_eql27 rfl rfl) ?_; refine hK _ ?_; clear hK K
  (refine walks_one fun K hK => ?_); refine st_pure rfl rfl (fun _ => rfl) ?_; refine hK _ ?_; clear hK K
  (refine walks_one fun K hK => ?_); refine st_load6 L9 rfl rfl rfl ?_; refine hK _ ?_; clear hK K
  (refine walks_one fun K hK => ?_); refine st_pure rfl rfl (fun _ => rfl) ?_; refine hK _ ?_; clear hK K
  (refine walks_one fun K hK => ?_); refine st_pure rfl rfl (fun _ => rfl) ?_; refine hK _ ?_; clear hK K
  (refine walks_one fun K hK => ?_); refine st_pure rfl rfl (fun _ => rfl) ?_; refine hK _ ?_; clear hK K
  (refine walks_one fun K hK => ?_); refine st_call rfl rfl (fun _ => run_call16 rfl) (fun _ _ h => quarter_over h rfl hjk hjk2 T3.out) ?_; refine hK _ ?_; clear hK K
  (refine walks_one fun K hK => ?_); refine st_pure rfl rfl (fun _ => run_eql23 rfl rfl) ?_; refine hK _ ?_; clear hK K
  (refine walks_one fun K hK => ?_); refine st_pure rfl rfl (fun _ => rfl) ?_; refine hK _ ?_; clear hK K
  (refine walks_one fun K hK => ?_); refine st_pure rfl rfl (fun _ => rfl) ?_; refine hK _ ?_; clear hK K
  (refine walks_one fun K hK => ?_); refine st_pure rfl rfl (fun _ => rfl) ?_; refine hK _ ?_; clear hK K
  (refine walks_one fun K hK => ?_); refine st_pure rfl rfl (fun _ => run_eql27 rfl rfl) ?_; refine hK _ ?_; clear hK K
  (refine walks_one fun K hK => ?_); refine st_pure rfl rfl (fun _ => rfl) ?_; refine hK _ ?_; clear hK K
  (refine walks_one fun K hK => ?_); refine st_pure rfl rfl (fun _ => rfl) ?_; refine hK _ ?_; clear hK K
  (refine walks_one fun K hK => ?_); refine st_load6 L15 rfl rfl rfl ?_; refine hK _ ?_; clear hK K
  (refine walks_one fun K hK => ?_); refine st_load6 L17 rfl rfl rfl ?_; refine hK _ ?_; clear hK K
  (refine walks_one fun K hK => ?_); refine st_pure rfl rfl (fun _ => run_eql23 rfl rfl) ?_; refine hK _ ?_; clear hK K
  (refine walks_one fun K hK => ?_); refine st_pure rfl rfl (fun _ => rfl) ?_; refine hK _ ?_; clear hK K
  refine walks_end fun a9 ha9 => hKQ _ fun w10 hC => ?_
  have e83 : a9.eval (.tmp 83) = .bool true := by rw [ha9.eval]; rfl
  refine tailB ?_
  refine hKn _ _ (wp_ret ?_)
  refine retB_is (ha9.put (d := 8) (by decide) _) Try.results5 ((upd_at _ _ _).trans e83) ?_
  exact And.intro rfl (below_next HB9.out hC)

set_option maxRecDepth 100000 in
theorem lifted (os : Os) (started : os.Started) (H : Type) (enc : TypeId × Value → H) :
    ReturnsInHanded {} Try.checked os 5 .any (Rows.affineQuartersSpec.pre6 enc Try.prog Try.f5 Rows.affineQuartersRow.domain false) (Rows.affineQuartersSpec.post enc Try.prog Try.f5 false true false false) := by
  refine returnsInHanded_of_change (C := Try.checked) own started (by kernel_rfl) Try.func5
    (ChangeSpec.witness6 (enc := enc) (C := Try.checked) false ⟨#[], #[.int .i64 0, .int .i64 0, .int .i64 0, .int .i64 0], []⟩ 8 (by kernel_rfl) (by kernel_rfl) (by kernel_rfl) (by kernel_rfl)) ?_
  intro W base args ds gs before hval0 hW hcnd _
  have hval : ∀ (j : Nat) t v, Try.f5.params[j]? = some t → args[j]? = some v → Value.okWide Try.prog W .any base t v := hval0
  have hW' := hW
  obtain ⟨p, q, hA0, hV, rfl, hfz, hnd⟩ := hW
  have hA : DataW.TrodAll enc Try.prog W 0 (fun _ => true) true Try.f5.params.toList args.toList ds p := hA0
  rw [Try.params5] at hA hval
  obtain ⟨v0, vs0, d0, ds0, p0, q0, hargs, rfl, rfl, h0, r0⟩ := trodAll_cons hA
  obtain ⟨v1, vs1, d1, ds1, p1, q1, rfl, rfl, rfl, h1, r1⟩ := trodAll_cons r0
  obtain ⟨v2, vs2, d2, ds2, p2, q2, rfl, rfl, rfl, h2, r2⟩ := trodAll_cons r1
  obtain ⟨v3, vs3, d3, ds3, p3, q3, rfl, rfl, rfl, h3, r3⟩ := trodAll_cons r2
  obtain ⟨rfl, rfl, rfl⟩ := trodAll_nil r3
  obtain rfl : args = #[v0, v1, v2, v3] := by cases args; simp_all
  obtain ⟨rfl, rfl⟩ := trodVars_none hV
  obtain ⟨x0, rfl, rfl, rfl, w0⟩ := open_int Try.underlying3 (hval 0 3 v0 rfl rfl) h0
  obtain ⟨x1, rfl, rfl, rfl, w1⟩ := open_int Try.underlying3 (hval 1 3 v1 rfl rfl) h1
  obtain ⟨x2, rfl, rfl, rfl, w2⟩ := open_int Try.underlying3 (hval 2 3 v2 rfl rfl) h2
  obtain ⟨x3, rfl, rfl, rfl, w3⟩ := open_int Try.underlying3 (hval 3 3 v3 rfl rfl) h3
  clear hA0 hval0
  refine (rest x0 x1 x2 x3 W).mono fun e W' ⟨he, bel⟩ => ?_
  subst he
  exact ⟨_, rfl, _, _, _, [], _, [], hW', trodAll_mk1 (shut_bool Try.underlying4 _), (trodAll_cons_mk (shut_int Try.underlying3 w0) (trodAll_cons_mk (shut_int Try.underlying3 w1) (trodAll_cons_mk (shut_int Try.underlying3 w2) (trodAll_cons_mk (shut_int Try.underlying3 w3) trodAll_mk0)))), rfl, bel.frame _, fun h => by cases h⟩

theorem over : Rows.affineQuartersRow.holds Try.pinned (OpenSpec.ofChange Rows.affineQuartersSpec) :=
  OpenClaim.holds_of_wide 5 Try.f5 rfl rfl rfl rfl rfl rfl rfl ⟨rfl, rfl, rfl, rfl, rfl⟩ rfl rfl rfl rfl rfl (by kernel_rfl) Try.func5 (by kernel_rfl)
    (of_decide_eq_true (by kernel_rfl)) (by unfold Func.isWrapper; first | (rw [if_pos (by decide +kernel)]; kernel_rfl) | (rw [if_neg (by decide +kernel)]; exact ⟨rfl, rfl⟩))
    (fun os started H enc _ => lifted os started H enc)

/-- The statement. -/
theorem proved : Rows.AffineQuartersSaid := over
end Go.Proofs.Ytdelhelfphblcaa.affineQuarters
