/- What Gcd of package num and the reference return: the greatest common divisor. -/
import Derived.Test.YtfcddkkaokoedaaRef
namespace Go.Proofs.Ytfcddkkaokoedaa
open Go Go.RowKit

theorem magnitude_any (n : Int) (w : World) (h1 : -4611686018427387904 ≤ n) (h2 : n ≤ 4611686018427387904) :
    Calls Try.prog 34 #[.int .i64 n] w fun e w' => e = .returned (.int .u64 n.natAbs) ∧ w = w' := by
  by_cases h : n < 0
  · have e : (n.natAbs : Int) = -n := by omega
    rw [e]
    clear e
    go_enter Try.func34, Try.ntmps34
    go_wp2
    go_ret
    exact ⟨rfl, rfl⟩
  · have e : (n.natAbs : Int) = n := by omega
    rw [e]
    clear e
    go_enter Try.func34, Try.ntmps34
    go_wp2
    go_ret
    exact ⟨rfl, rfl⟩

theorem gcd_tmod (a b : Int) : Int.gcd b (a.tmod b) = Int.gcd a b := by
  unfold Int.gcd
  rw [Int.natAbs_tmod, Nat.gcd_comm b.natAbs, ← Nat.gcd_rec, Nat.gcd_comm]

theorem tmod_bound (a b : Int) (h : b ≠ 0) : (a.tmod b).natAbs < b.natAbs := by
  rw [Int.natAbs_tmod]
  exact Nat.mod_lt _ (by omega)

theorem gcd_range (a b : Int) (w : World) (h : ¬ Ins [a, b]) :
    Calls Try.prog 19 #[.int .i64 a, .int .i64 b] w fun e w' => e = .returned (.tuple #[.int .i64 0, .int .i64 3]) ∧ Grown w w' := by
  have c := inRange_no [a, b] w.heap.size 0 2 _ (by simp) (lies2 a b w) h
  clear h
  go_enter Try.func19, Try.ntmps19
  go_wp2_with (go_at_call 37; refine Calls.mono c ?_; rintro e w' ⟨rfl, rfl⟩)
  go_ret2
  exact ⟨rfl, by repeat (first | exact Grown.refl _ | apply Grown.drew | apply Grown.alloc)⟩

theorem gcd_any (a b : Int) (w : World) (h : Ins [a, b]) :
    Calls Try.prog 19 #[.int .i64 a, .int .i64 b] w fun e w' => e = .returned (.tuple #[.int .i64 (Int.gcd a b), .int .i64 0]) ∧ Grown w w' := by
  have c := inRange_yes [a, b] w.heap.size 0 2 _ (by simp) (lies2 a b w) h
  obtain ⟨⟨a1, a2⟩, b1, b2⟩ := ins2.mp h
  clear h
  obtain ⟨G, hG⟩ : ∃ G, G = Int.gcd a b := ⟨_, rfl⟩
  rw [← hG]
  have HG := hid hG
  clear hG
  go_enter Try.func19, Try.ntmps19
  go_wp2_with (go_at_call 37; refine Calls.mono c ?_; rintro e w' ⟨rfl, rfl⟩)
  clear c
  go_loopw [0, 1] (fun x y wr => ∃ p q : Int, -1099511627776 ≤ p ∧ p ≤ 1099511627776 ∧ -1099511627776 ≤ q ∧ q ≤ 1099511627776 ∧ Hid (G = Int.gcd p q) ∧ x = .int .i64 p ∧ y = .int .i64 q ∧ Grown w wr) (fun _ y _ => (intOf y).natAbs)
  case atStart => exact ⟨a, b, a1, a2, b1, b2, HG, rfl, rfl, by repeat (first | exact Grown.refl _ | apply Grown.drew | apply Grown.alloc)⟩
  case round =>
    obtain ⟨p, q, p1, p2, q1, q2, hg, rfl, rfl, hgr⟩ := hrel
    clear a1 a2 b1 b2 HG
    have HGR := hid hgr
    clear hgr
    by_cases hq : q = 0
    · subst hq
      go_wp2_with (go_at_call 34; (with_reducible refine (magnitude_any p _ (by omega) (by omega)).mono ?_); rintro e w' ⟨rfl, rfl⟩)
      go_ret2
      refine ⟨?_, HGR.out⟩
      have e : G = p.natAbs := by have := hg.out; simpa using this
      show Ending.returned (.tuple #[.int .i64 _, .int .i64 0]) = _
      rw [e]
    · have t1 := tmod_bound p q hq
      have t2 := gcd_tmod p q
      have T2 := hid t2
      clear t2
      go_wp2
      go_region
      go_wp2
      go_roundw
      case rel => exact ⟨q, p.tmod q, q1, q2, by omega, by omega, hid (hg.out.trans T2.out.symm), rfl, rfl, HGR.out.drew⟩
      case measure => simpa [intOf] using t1

theorem gcd_twice (a b : Nat) (ha : a % 2 = 0) (hb : b % 2 = 0) : Nat.gcd a b = 2 * Nat.gcd (a / 2) (b / 2) := by
  have e1 : a = 2 * (a / 2) := by omega
  have e2 : b = 2 * (b / 2) := by omega
  conv => lhs; rw [e1, e2, Nat.gcd_mul_left]

theorem gcd_half (a b : Nat) (ha : a % 2 = 0) (hb : ¬ b % 2 = 0) : Nat.gcd (a / 2) b = Nat.gcd a b := by
  have e1 : a = 2 * (a / 2) := by omega
  have c : Nat.Coprime 2 b := by
    unfold Nat.Coprime
    rw [Nat.gcd_rec, show b % 2 = 1 by omega]; rfl
  conv => rhs; rw [e1, Nat.Coprime.gcd_mul_left_cancel _ c]

theorem gcd_sub_half (a b : Nat) (ha : ¬ a % 2 = 0) (hb : ¬ b % 2 = 0) (h : b < a) : Nat.gcd ((a - b) / 2) b = Nat.gcd a b := by
  rw [gcd_half (a - b) b (by omega) hb, Nat.gcd_sub_self_left (by omega)]

/-- The state of the reference's first loop: both numbers, and the power of two that was taken out. -/
def Twos (G a b t : Nat) : Prop := 1 ≤ a ∧ 1 ≤ b ∧ a ≤ 1099511627776 ∧ b ≤ 1099511627776 ∧ 1 ≤ t ∧ t * Nat.gcd a b = G

theorem twos_bound {G a b t : Nat} (h : Twos G a b t) (hG : G ≤ 1099511627776) : t ≤ 1099511627776 := by
  obtain ⟨h1, h2, h3, h4, h5, h6⟩ := h
  have : 1 ≤ Nat.gcd a b := Nat.gcd_pos_of_pos_left _ h1
  have := Nat.le_mul_of_pos_right t this
  omega

theorem twos_step {G a b t : Nat} (h : Twos G a b t) (ha : a % 2 = 0) (hb : b % 2 = 0) : Twos G (a / 2) (b / 2) (2 * t) := by
  obtain ⟨h1, h2, h3, h4, h5, h6⟩ := h
  refine ⟨by omega, by omega, by omega, by omega, by omega, ?_⟩
  rw [gcd_twice a b ha hb] at h6
  rw [← h6, Nat.mul_comm 2 t, Nat.mul_assoc]

/-- The state of the second loop: numbers with the same divisor, not both even. -/
def Odds (g a b : Nat) : Prop := 1 ≤ a ∧ 1 ≤ b ∧ a ≤ 1099511627776 ∧ b ≤ 1099511627776 ∧ ¬ (a % 2 = 0 ∧ b % 2 = 0) ∧ Nat.gcd a b = g

theorem odds_a {g a b : Nat} (h : Odds g a b) (ha : a % 2 = 0) : Odds g (a / 2) b := by
  obtain ⟨h1, h2, h3, h4, h5, h6⟩ := h
  exact ⟨by omega, by omega, by omega, by omega, by omega, by rw [gcd_half a b ha (by omega)]; exact h6⟩

theorem odds_b {g a b : Nat} (h : Odds g a b) (hb : b % 2 = 0) : Odds g a (b / 2) := by
  obtain ⟨h1, h2, h3, h4, h5, h6⟩ := h
  exact ⟨by omega, by omega, by omega, by omega, by omega, by rw [Nat.gcd_comm, gcd_half b a hb (by omega), Nat.gcd_comm]; exact h6⟩

theorem odds_gt {g a b : Nat} (h : Odds g a b) (ha : ¬ a % 2 = 0) (hb : ¬ b % 2 = 0) (hab : b < a) : Odds g ((a - b) / 2) b := by
  obtain ⟨h1, h2, h3, h4, h5, h6⟩ := h
  exact ⟨by omega, by omega, by omega, by omega, by omega, by rw [gcd_sub_half a b ha hb hab]; exact h6⟩

theorem odds_lt {g a b : Nat} (h : Odds g a b) (ha : ¬ a % 2 = 0) (hb : ¬ b % 2 = 0) (hab : a < b) : Odds g a ((b - a) / 2) := by
  obtain ⟨h1, h2, h3, h4, h5, h6⟩ := h
  exact ⟨by omega, by omega, by omega, by omega, by omega, by rw [Nat.gcd_comm, gcd_sub_half b a hb ha hab, Nat.gcd_comm]; exact h6⟩

theorem gcd_bound (a b : Int) (a1 : -1099511627776 ≤ a) (a2 : a ≤ 1099511627776) (b1 : -1099511627776 ≤ b) (b2 : b ≤ 1099511627776) : Int.gcd a b ≤ 1099511627776 := by
  unfold Int.gcd
  by_cases h : a = 0
  · subst h
    simp
    omega
  · have := Nat.gcd_le_left b.natAbs (show 0 < a.natAbs by omega)
    omega

theorem sub_half {a b : Nat} (h : b < a) : ((a : Int) - b) / 2 = (((a - b) / 2 : Nat) : Int) := by omega

theorem half_cast (a : Nat) : (a : Int) / 2 = ((a / 2 : Nat) : Int) := by omega

theorem int_of {a b : Int} (h : a = b) : Value.int .i64 a = Value.int .i64 b := by rw [h]

set_option maxHeartbeats 2000000 in
theorem rgcd_pos (a b : Int) (A B : Nat) (w : World) (a1 : -1099511627776 ≤ a) (a2 : a ≤ 1099511627776) (b1 : -1099511627776 ≤ b) (b2 : b ≤ 1099511627776)
    (ha : a ≠ 0) (hb : b ≠ 0) (hA : a.natAbs = A) (hB : b.natAbs = B) :
    Calls Try.prog 27 #[.int .i64 a, .int .i64 b] w fun e w' => e = .returned (.int .i64 (Nat.gcd A B)) ∧ w = w' := by
  have T0 : Twos (Nat.gcd A B) A B 1 := ⟨by omega, by omega, by omega, by omega, by omega, by omega⟩
  have HT := hid T0
  have hG : Nat.gcd A B ≤ 1099511627776 := by have := gcd_bound a b a1 a2 b1 b2; unfold Int.gcd at this; rw [hA, hB] at this; exact this
  generalize Nat.gcd A B = G at HT hG
  have HA := hid hA
  have HB := hid hB
  clear hA hB T0
  have z1 : (a == 0) = false := by rw [beq_eq_false_iff_ne]; exact ha
  have z2 : (-a == 0) = false := by rw [beq_eq_false_iff_ne]; omega
  have z3 : (b == 0) = false := by rw [beq_eq_false_iff_ne]; exact hb
  have z4 : (-b == 0) = false := by rw [beq_eq_false_iff_ne]; omega
  have ha' : a ≤ -1 ∨ 1 ≤ a := by omega
  have hb' : b ≤ -1 ∨ 1 ≤ b := by omega
  clear ha hb
  rcases ha' with sa | sa
  all_goals rcases hb' with sb | sb
  all_goals
    go_enter Try.func27, Try.ntmps27
    go_wp2
    go_loop [0, 1, 5] (fun x y z => ∃ p q t : Nat, Hid (Twos G p q t) ∧ x = .int .i64 p ∧ y = .int .i64 q ∧ z = .int .i64 t) (fun x _ _ => (intOf x).toNat)
    case atStart => exact ⟨A, B, 1, HT, int_of (by have := HA.out; omega), int_of (by have := HB.out; omega), rfl⟩
    case round =>
      obtain ⟨p, q, t, ht, rfl, rfl, rfl⟩ := hrel
      clear HT HA HB a1 a2 b1 b2 sa sb z1 z2 z3 z4
      have t1 := twos_bound ht.out hG
      have p1 := ht.out.1
      have q1 := ht.out.2.1
      have p2 := ht.out.2.2.1
      have q2 := ht.out.2.2.2.1
      by_cases hpq : p % 2 = 0 ∧ q % 2 = 0
      · have H1 := hid (twos_step ht.out hpq.1 hpq.2)
        have d1 : (p : Int) % 2 = 0 := by omega
        have d2 : (q : Int) % 2 = 0 := by omega
        clear hpq
        go_wp2
        go_round
        case rel => exact ⟨p / 2, q / 2, 2 * t, H1, int_of (by omega), int_of (by omega), int_of (by omega)⟩
        case measure => simp [intOf]; omega
      · obtain ⟨g, hg⟩ : ∃ g, g = Nat.gcd p q := ⟨_, rfl⟩
        have O0 := hid (show Odds g p q from ⟨p1, q1, p2, q2, hpq, hg.symm⟩)
        have G0 := hid (show t * g = G by rw [hg]; exact ht.out.2.2.2.2.2)
        clear hg ht
        rcases (show ((p : Int) % 2 = 0 ∧ (q : Int) % 2 = 1) ∨ (p : Int) % 2 = 1 by omega) with ⟨d1, d2⟩ | d1
        all_goals
          clear hpq
          go_wp2
          go_loop [0, 1] (fun x y => ∃ p q : Nat, Hid (Odds g p q) ∧ x = .int .i64 p ∧ y = .int .i64 q) (fun x y => (intOf x).toNat + (intOf y).toNat)
          case atStart => exact ⟨p, q, O0, rfl, rfl⟩
          case round =>
            clear p1 q1 p2 q2 d1 O0
            obtain ⟨p, q, ho, rfl, rfl⟩ := hrel
            have p1 := ho.out.1
            have q1 := ho.out.2.1
            have p2 := ho.out.2.2.1
            have q2 := ho.out.2.2.2.1
            by_cases h1 : p = q
            · subst h1
              have e1 : g = p := by have := ho.out.2.2.2.2.2; rw [Nat.gcd_self] at this; exact this.symm
              have e2 : (p : Int) * t = G := by have := G0.out; rw [e1] at this; rw [← this, Int.natCast_mul]; exact Int.mul_comm _ _
              have e3 : 0 ≤ (p : Int) * t := by omega
              have e4 : (p : Int) * t ≤ 1099511627776 := by omega
              have E2 := hid e2
              clear e1 e2
              go_wp2
              go_ret
              exact ⟨ret1_int E2.out, rfl⟩
            · by_cases h2 : p % 2 = 0
              · have O1 := hid (odds_a ho.out h2)
                have c1 : (p : Int) % 2 = 0 := by omega
                clear h2
                go_wp2
                go_round
                case rel => exact ⟨p / 2, q, O1, int_of (by omega), rfl⟩
                case measure => simp [intOf]; omega
              · have c1 : (p : Int) % 2 = 1 := by omega
                by_cases h3 : q % 2 = 0
                · have O1 := hid (odds_b ho.out h3)
                  have c2 : (q : Int) % 2 = 0 := by omega
                  clear h2 h3
                  go_wp2
                  go_round
                  case rel => exact ⟨p, q / 2, O1, rfl, int_of (by omega)⟩
                  case measure => simp [intOf]; omega
                · have c2 : (q : Int) % 2 = 1 := by omega
                  by_cases h4 : q < p
                  · have O1 := hid (odds_gt ho.out h2 h3 h4)
                    clear h2 h3
                    go_wp2
                    go_round
                    case rel => exact ⟨(p - q) / 2, q, O1, int_of (by omega), rfl⟩
                    case measure => simp [intOf]; omega
                  · have O1 := hid (odds_lt ho.out h2 h3 (by omega))
                    clear h2 h3
                    go_wp2
                    go_round
                    case rel => exact ⟨p, (q - p) / 2, O1, rfl, int_of (by omega)⟩
                    case measure => simp [intOf]; omega

theorem rgcd_left (b : Int) (w : World) (b1 : -1099511627776 ≤ b) (b2 : b ≤ 1099511627776) :
    Calls Try.prog 27 #[.int .i64 0, .int .i64 b] w fun e w' => e = .returned (.int .i64 (Int.gcd 0 b)) ∧ w = w' := by
  rcases (by omega : b ≤ -1 ∨ 0 ≤ b) with sb | sb
  · have e : (Int.gcd 0 b : Int) = -b := by simp; omega
    rw [e]; clear e
    go_enter Try.func27, Try.ntmps27
    go_wp2
    go_ret
    exact ⟨ret1_int (by omega), rfl⟩
  · have e : (Int.gcd 0 b : Int) = b := by simp; omega
    rw [e]; clear e
    go_enter Try.func27, Try.ntmps27
    go_wp2
    go_ret
    exact ⟨ret1_int (by omega), rfl⟩

theorem rgcd_right (a : Int) (w : World) (a1 : -1099511627776 ≤ a) (a2 : a ≤ 1099511627776) (ha : a ≠ 0) :
    Calls Try.prog 27 #[.int .i64 a, .int .i64 0] w fun e w' => e = .returned (.int .i64 (Int.gcd a 0)) ∧ w = w' := by
  have z1 : (a == 0) = false := by rw [beq_eq_false_iff_ne]; exact ha
  have z2 : (-a == 0) = false := by rw [beq_eq_false_iff_ne]; omega
  rcases (by omega : a ≤ -1 ∨ 1 ≤ a) with sb | sb
  · have e : (Int.gcd a 0 : Int) = -a := by simp; omega
    rw [e]; clear e ha
    go_enter Try.func27, Try.ntmps27
    go_wp2
    go_ret
    exact ⟨ret1_int (by omega), rfl⟩
  · have e : (Int.gcd a 0 : Int) = a := by simp; omega
    rw [e]; clear e ha
    go_enter Try.func27, Try.ntmps27
    go_wp2
    go_ret
    exact ⟨ret1_int (by omega), rfl⟩

theorem rgcd_any (a b : Int) (w : World) (a1 : -1099511627776 ≤ a) (a2 : a ≤ 1099511627776) (b1 : -1099511627776 ≤ b) (b2 : b ≤ 1099511627776) :
    Calls Try.prog 27 #[.int .i64 a, .int .i64 b] w fun e w' => e = .returned (.int .i64 (Int.gcd a b)) ∧ w = w' := by
  by_cases ha : a = 0
  · subst ha; exact rgcd_left b w b1 b2
  · by_cases hb : b = 0
    · subst hb; exact rgcd_right a w a1 a2 ha
    · exact rgcd_pos a b _ _ w a1 a2 b1 b2 ha hb rfl rfl

end Go.Proofs.Ytfcddkkaokoedaa
