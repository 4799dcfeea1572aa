/- What bits.Len64 and bits.LeadingZeros64 return, with the bounds that their number sets. -/
import Derived.Test.YtjflgblplmgjlaaLeaf
import Derived.Lib.BitFns
namespace Go.Proofs.Ytjflgblplmgjlaa
open Go Go.RowKit

theorem len_arm (x d : Int) (k p : Nat) (hp : p = 2 ^ k) (hd : d = ((x.toNat / p : Nat) : Int)) (h8 : x.toNat / p < 256) (hx : x.toNat < 2 ^ 64) (hk : k = 0 ∨ p ≤ x.toNat) :
    (k : Int) + Lib.len8 d = (Lib.bitLen x.toNat : Int) ∧ 0 ≤ Lib.len8 d ∧ Lib.len8 d ≤ 8 := by
  subst hp
  have hs : k ≠ 0 → Lib.bitLen x.toNat = k + Lib.bitLen (x.toNat / 2 ^ k) := fun h => Lib.bitLen_shift k x.toNat (by omega) hx
  have hz : k = 0 → x.toNat / 2 ^ k = x.toNat := fun h => by subst h; simp
  generalize x.toNat / 2 ^ k = q at hd h8 hs hz
  have e := Lib.len8_of d (by omega) (by omega)
  have l := Lib.bitLen_le8' d (by omega) (by omega)
  have ed : d.toNat = q := by omega
  rw [ed] at e l
  by_cases h : k = 0
  · have hq := hz h
    rw [hq] at e l
    omega
  · have hq := hs h
    omega

set_option maxRecDepth 100000 in
theorem len64_56 (x : Int) (w : World) (h : 72057594037927936 ≤ x) (h1 : x ≤ 18446744073709551615) :
    Calls Try.prog 44 #[.int .u64 x] w fun e w' => e = .returned (.int .i64 (Lib.bitLen x.toNat)) ∧ w = w' := by
  have a := len_arm x (x / 4294967296 / 65536 / 256) 56 72057594037927936 rfl (by omega) (by omega) (by omega) (by omega)
  have i0 : 0 ≤ x / 4294967296 / 65536 / 256 := by omega
  have i1 : x / 4294967296 / 65536 / 256 ≤ 255 := by omega
  have t1 : 4294967296 ≤ x := by omega
  have t2 : 65536 ≤ x / 4294967296 := by omega
  have t3 : 256 ≤ x / 4294967296 / 65536 := by omega
  have v := a.1
  have v0 := a.2.1
  have v1 := a.2.2
  clear a
  rw [← v]
  clear v
  go_enter Try.func44, Try.ntmps44
  go_wp2
  go_ret
  exact ⟨rfl, rfl⟩

set_option maxRecDepth 100000 in
theorem len64_48 (x : Int) (w : World) (h : 281474976710656 ≤ x) (h1 : x ≤ 72057594037927935) :
    Calls Try.prog 44 #[.int .u64 x] w fun e w' => e = .returned (.int .i64 (Lib.bitLen x.toNat)) ∧ w = w' := by
  have a := len_arm x (x / 4294967296 / 65536) 48 281474976710656 rfl (by omega) (by omega) (by omega) (by omega)
  have i0 : 0 ≤ x / 4294967296 / 65536 := by omega
  have i1 : x / 4294967296 / 65536 ≤ 255 := by omega
  have t1 : 4294967296 ≤ x := by omega
  have t2 : 65536 ≤ x / 4294967296 := by omega
  have t3 : x / 4294967296 / 65536 < 256 := by omega
  have v := a.1
  have v0 := a.2.1
  have v1 := a.2.2
  clear a
  rw [← v]
  clear v
  go_enter Try.func44, Try.ntmps44
  go_wp2
  go_ret
  exact ⟨rfl, rfl⟩

set_option maxRecDepth 100000 in
theorem len64_40 (x : Int) (w : World) (h : 1099511627776 ≤ x) (h1 : x ≤ 281474976710655) :
    Calls Try.prog 44 #[.int .u64 x] w fun e w' => e = .returned (.int .i64 (Lib.bitLen x.toNat)) ∧ w = w' := by
  have a := len_arm x (x / 4294967296 / 256) 40 1099511627776 rfl (by omega) (by omega) (by omega) (by omega)
  have i0 : 0 ≤ x / 4294967296 / 256 := by omega
  have i1 : x / 4294967296 / 256 ≤ 255 := by omega
  have t1 : 4294967296 ≤ x := by omega
  have t2 : x / 4294967296 < 65536 := by omega
  have t3 : 256 ≤ x / 4294967296 := by omega
  have v := a.1
  have v0 := a.2.1
  have v1 := a.2.2
  clear a
  rw [← v]
  clear v
  go_enter Try.func44, Try.ntmps44
  go_wp2
  go_ret
  exact ⟨rfl, rfl⟩

set_option maxRecDepth 100000 in
theorem len64_32 (x : Int) (w : World) (h : 4294967296 ≤ x) (h1 : x ≤ 1099511627775) :
    Calls Try.prog 44 #[.int .u64 x] w fun e w' => e = .returned (.int .i64 (Lib.bitLen x.toNat)) ∧ w = w' := by
  have a := len_arm x (x / 4294967296) 32 4294967296 rfl (by omega) (by omega) (by omega) (by omega)
  have i0 : 0 ≤ x / 4294967296 := by omega
  have i1 : x / 4294967296 ≤ 255 := by omega
  have t1 : 4294967296 ≤ x := by omega
  have t2 : x / 4294967296 < 65536 := by omega
  have t3 : x / 4294967296 < 256 := by omega
  have v := a.1
  have v0 := a.2.1
  have v1 := a.2.2
  clear a
  rw [← v]
  clear v
  go_enter Try.func44, Try.ntmps44
  go_wp2
  go_ret
  exact ⟨rfl, rfl⟩

set_option maxRecDepth 100000 in
theorem len64_24 (x : Int) (w : World) (h : 16777216 ≤ x) (h1 : x ≤ 4294967295) :
    Calls Try.prog 44 #[.int .u64 x] w fun e w' => e = .returned (.int .i64 (Lib.bitLen x.toNat)) ∧ w = w' := by
  have a := len_arm x (x / 65536 / 256) 24 16777216 rfl (by omega) (by omega) (by omega) (by omega)
  have i0 : 0 ≤ x / 65536 / 256 := by omega
  have i1 : x / 65536 / 256 ≤ 255 := by omega
  have t1 : x < 4294967296 := by omega
  have t2 : 65536 ≤ x := by omega
  have t3 : 256 ≤ x / 65536 := by omega
  have v := a.1
  have v0 := a.2.1
  have v1 := a.2.2
  clear a
  rw [← v]
  clear v
  go_enter Try.func44, Try.ntmps44
  go_wp2
  go_ret
  exact ⟨rfl, rfl⟩

set_option maxRecDepth 100000 in
theorem len64_16 (x : Int) (w : World) (h : 65536 ≤ x) (h1 : x ≤ 16777215) :
    Calls Try.prog 44 #[.int .u64 x] w fun e w' => e = .returned (.int .i64 (Lib.bitLen x.toNat)) ∧ w = w' := by
  have a := len_arm x (x / 65536) 16 65536 rfl (by omega) (by omega) (by omega) (by omega)
  have i0 : 0 ≤ x / 65536 := by omega
  have i1 : x / 65536 ≤ 255 := by omega
  have t1 : x < 4294967296 := by omega
  have t2 : 65536 ≤ x := by omega
  have t3 : x / 65536 < 256 := by omega
  have v := a.1
  have v0 := a.2.1
  have v1 := a.2.2
  clear a
  rw [← v]
  clear v
  go_enter Try.func44, Try.ntmps44
  go_wp2
  go_ret
  exact ⟨rfl, rfl⟩

set_option maxRecDepth 100000 in
theorem len64_8 (x : Int) (w : World) (h : 256 ≤ x) (h1 : x ≤ 65535) :
    Calls Try.prog 44 #[.int .u64 x] w fun e w' => e = .returned (.int .i64 (Lib.bitLen x.toNat)) ∧ w = w' := by
  have a := len_arm x (x / 256) 8 256 rfl (by omega) (by omega) (by omega) (by omega)
  have i0 : 0 ≤ x / 256 := by omega
  have i1 : x / 256 ≤ 255 := by omega
  have t1 : x < 4294967296 := by omega
  have t2 : x < 65536 := by omega
  have t3 : 256 ≤ x := by omega
  have v := a.1
  have v0 := a.2.1
  have v1 := a.2.2
  clear a
  rw [← v]
  clear v
  go_enter Try.func44, Try.ntmps44
  go_wp2
  go_ret
  exact ⟨rfl, rfl⟩

set_option maxRecDepth 100000 in
theorem len64_0 (x : Int) (w : World) (h0 : 0 ≤ x) (h1 : x ≤ 255) :
    Calls Try.prog 44 #[.int .u64 x] w fun e w' => e = .returned (.int .i64 (Lib.bitLen x.toNat)) ∧ w = w' := by
  have a := len_arm x (x) 0 1 rfl (by omega) (by omega) (by omega) (by omega)
  have i0 : 0 ≤ x := by omega
  have i1 : x ≤ 255 := by omega
  have t1 : x < 4294967296 := by omega
  have t2 : x < 65536 := by omega
  have t3 : x < 256 := by omega
  have v := a.1
  have v0 := a.2.1
  have v1 := a.2.2
  clear a
  rw [← v]
  clear v
  go_enter Try.func44, Try.ntmps44
  go_wp2
  go_ret
  exact ⟨by simp, rfl⟩

theorem len64_val (x : Int) (w : World) (h0 : 0 ≤ x) (h1 : x ≤ 18446744073709551615) :
    Calls Try.prog 44 #[.int .u64 x] w fun e w' => e = .returned (.int .i64 (Lib.bitLen x.toNat)) ∧ w = w' := by
  by_cases c56 : 72057594037927936 ≤ x
  · exact len64_56 x w c56 (by omega)
  by_cases c48 : 281474976710656 ≤ x
  · exact len64_48 x w c48 (by omega)
  by_cases c40 : 1099511627776 ≤ x
  · exact len64_40 x w c40 (by omega)
  by_cases c32 : 4294967296 ≤ x
  · exact len64_32 x w c32 (by omega)
  by_cases c24 : 16777216 ≤ x
  · exact len64_24 x w c24 (by omega)
  by_cases c16 : 65536 ≤ x
  · exact len64_16 x w c16 (by omega)
  by_cases c8 : 256 ≤ x
  · exact len64_8 x w c8 (by omega)
  exact len64_0 x w h0 (by omega)

theorem bitLen_bounds (x : Nat) (h : x < 2 ^ 64) (h0 : 1 ≤ x) : 1 ≤ Lib.bitLen x ∧ 2 ^ (Lib.bitLen x - 1) ≤ x ∧ x < 2 ^ Lib.bitLen x := by
  induction x using Nat.strongRecOn with
  | _ x ih =>
    rw [Lib.bitLen_half x (by omega) h]
    by_cases h1 : x = 1
    · subst h1
      decide +kernel
    · obtain ⟨a, b, c⟩ := ih (x / 2) (by omega) (by omega) (by omega)
      obtain ⟨n, hn⟩ : ∃ n, Lib.bitLen (x / 2) = n + 1 := ⟨Lib.bitLen (x / 2) - 1, by omega⟩
      rw [hn] at b c ⊢
      simp only [Nat.add_sub_cancel, Nat.pow_succ] at b c
      have e1 : 1 + (n + 1) - 1 = n + 1 := by omega
      have e2 : 1 + (n + 1) = n + 2 := by omega
      rw [e1, e2]
      simp only [Nat.pow_succ]
      omega

def LenGives (x : Int) (w : World) (e : Ending) (w' : World) : Prop := ∃ n : Nat, n ≤ 64 ∧ (x < 9223372036854775808 → n ≤ 63) ∧ (1 ≤ x → 1 ≤ n ∧ (2 : Int) ^ (n - 1) ≤ x) ∧ x < (2 : Int) ^ n ∧ e = .returned (.int .i64 n) ∧ w = w'

theorem len64_any (x : Int) (w : World) (h0 : 0 ≤ x) (h1 : x ≤ 18446744073709551615) : Calls Try.prog 44 #[.int .u64 x] w (LenGives x w) :=
  (len64_val x w h0 h1).mono fun e w' ⟨he, hw⟩ => by
    obtain ⟨n, rfl⟩ : ∃ n : Nat, x = n := ⟨x.toNat, by omega⟩
    refine ⟨_, Lib.bitLen_le n 64 (by omega) (by omega), fun h => Lib.bitLen_le n 63 (by omega) (by omega), fun h => ?_, ?_, he, hw⟩
    · obtain ⟨a, b, c⟩ := bitLen_bounds n (by omega) (by omega)
      exact ⟨a, by exact_mod_cast b⟩
    · by_cases h : n = 0
      · subst h; decide +kernel
      · have c := (bitLen_bounds n (by omega) (by omega)).2.2
        exact_mod_cast c

end Go.Proofs.Ytjflgblplmgjlaa
