/- What the reference's digits returns. -/
import Derived.Test.YtijkoaggcmgjiabDoorPSeN
namespace Go.Proofs.YtijkoaggcmgjiabDoor
open Go Go.RowKit
set_option linter.unusedVariables false
set_option linter.unusedSimpArgs false

def isDig (b : UInt8) : Bool := decide (48 ≤ b.toNat) && decide (b.toNat ≤ 57)
/-- How many digits stand at place a of a text. -/
def nd (l : List UInt8) (a : Nat) : Nat := ((l.drop a).takeWhile isDig).length
def dval (l : List UInt8) : Nat := l.foldl (fun n b => 10 * n + (b.toNat - 48)) 0
def byteAt (l : List UInt8) (i : Nat) : UInt8 := l.getD i 0
/-- The number at place a behind its sign, if the digits are as they have to be. -/
def digN (l : List UInt8) (neg : Bool) (a : Nat) : Option (Int × Nat) :=
  if 5 < nd l a then none else if nd l a = 0 then none else if byteAt l a = 48 ∧ (1 < nd l a ∨ neg = true) then none
  else some (if neg then -(dval ((l.drop a).take (nd l a)) : Int) else (dval ((l.drop a).take (nd l a)) : Int), a + nd l a)
def digS (l : List UInt8) (a : Nat) : Option (Int × Nat) := if a < l.length ∧ byteAt l a = 45 then digN l true (a + 1) else digN l false a
def PDig (o : Option (Int × Nat)) (e : Ending) : Prop := match o with
  | some (n, k) => e = .returned (.tuple #[.int .i64 n, .int .i64 (k : Int)])
  | none => e = .returned (.tuple #[.int .i64 0, .int .i64 (-1)])

theorem getB (s : ByteArray) (i : Nat) (h : i < s.size) : s[i] = byteAt s.data.toList i := by
  unfold byteAt
  rw [List.getD_eq_getElem?_getD]
  have h' : i < s.data.toList.length := by simpa using h
  rw [List.getElem?_eq_getElem h']
  simp
  rfl
theorem sizeB (s : ByteArray) : s.data.toList.length = s.size := Array.length_toList
theorem tw_at : ∀ (l : List UInt8) (c : Nat), c < (l.takeWhile isDig).length → c < l.length ∧ isDig (byteAt l c) = true
  | [], c, h => by simp at h
  | b :: r, c, h => by
    by_cases hb : isDig b = true
    · rw [List.takeWhile_cons, if_pos hb] at h
      cases c with
      | zero => exact ⟨by simp, hb⟩
      | succ c =>
        have := tw_at r c (by simpa using h)
        exact ⟨by simpa using this.1, this.2⟩
    · rw [List.takeWhile_cons, if_neg hb] at h; simp at h
theorem tw_stop : ∀ (l : List UInt8), (l.takeWhile isDig).length ≤ l.length ∧ ((l.takeWhile isDig).length < l.length → isDig (byteAt l (l.takeWhile isDig).length) = false)
  | [] => ⟨Nat.le_refl _, fun h => by simp at h⟩
  | b :: r => by
    by_cases hb : isDig b = true
    · rw [List.takeWhile_cons, if_pos hb]
      have := tw_stop r
      exact ⟨by simpa using this.1, fun h => this.2 (by simpa using h)⟩
    · rw [List.takeWhile_cons, if_neg hb]
      exact ⟨Nat.zero_le _, fun _ => by simpa [byteAt] using hb⟩
theorem byteAt_drop (l : List UInt8) (a c : Nat) : byteAt (l.drop a) c = byteAt l (a + c) := by
  unfold byteAt
  rw [List.getD_eq_getElem?_getD, List.getD_eq_getElem?_getD, List.getElem?_drop]
theorem nd_at {l : List UInt8} {a c : Nat} (h : c < nd l a) : a + c < l.length ∧ isDig (byteAt l (a + c)) = true := by
  obtain ⟨h1, h2⟩ := tw_at _ _ h
  rw [byteAt_drop] at h2
  rw [List.length_drop] at h1
  exact ⟨by omega, h2⟩
theorem nd_stop {l : List UInt8} {a : Nat} (ha : a ≤ l.length) : a + nd l a ≤ l.length ∧ (a + nd l a < l.length → isDig (byteAt l (a + nd l a)) = false) := by
  obtain ⟨h1, h2⟩ := tw_stop (l.drop a)
  rw [List.length_drop] at h1 h2
  rw [byteAt_drop] at h2
  exact ⟨by unfold nd; omega, fun h => h2 (by unfold nd at h; omega)⟩
theorem dval_snoc (l : List UInt8) (b : UInt8) : dval (l ++ [b]) = 10 * dval l + (b.toNat - 48) := by
  unfold dval
  rw [List.foldl_append]
  rfl
theorem take_snoc {l : List UInt8} {a c : Nat} (h : a + c < l.length) : (l.drop a).take (c + 1) = (l.drop a).take c ++ [byteAt l (a + c)] := by
  have h' : c < (l.drop a).length := by rw [List.length_drop]; omega
  rw [List.take_succ_eq_append_getElem h']
  congr 2
  rw [← byteAt_drop]
  unfold byteAt
  rw [List.getD_eq_getElem?_getD, List.getElem?_eq_getElem h']
  rfl
theorem dig_bounds {b : UInt8} (h : isDig b = true) : 48 ≤ b.toNat ∧ b.toNat ≤ 57 := by
  unfold isDig at h
  simpa using h

set_option maxHeartbeats 3200000 in
set_option maxRecDepth 100000 in
theorem digits_minus (s : ByteArray) (a : Nat) (w : World) (hs : s.size ≤ 40000) (ha : a < s.size) (hm : byteAt s.data.toList a = 45) :
    Calls Tryd.prog 18 #[.string s, .int .i64 (a : Int)] w fun e w' => PDig (digN s.data.toList true (a + 1)) e ∧ w = w' := by
  have h45 : (((s[a]'ha).toNat : Int) == 45) = true := by rw [getB s a ha, hm]; rfl
  go_enter Tryd.func18, Tryd.ntmps18
  go_wp2_with fail
  go_loop [7, 8] (fun s7 s8 => ∃ (c k v : Nat), c ≤ 5 ∧ c ≤ nd s.data.toList (a + 1) ∧ k = (a + 1) + c ∧ v < 10 ^ c ∧ s7 = .int .i64 (v : Int) ∧ s8 = .int .i64 (k : Int) ∧ Hid (v = dval ((s.data.toList.drop (a + 1)).take c))) (fun _ s8 => s.size - (intOf s8).toNat)
  case atStart => exact ⟨0, (a + 1), 0, by omega, Nat.zero_le _, rfl, by decide, rfl, by go_num, hid rfl⟩
  case round =>
    obtain ⟨c, k, v, hc5, hcn, hk, hv, rfl, rfl, HD⟩ := hrel
    have HV := hid hv
    have hv5 : v < 100000 := Nat.lt_of_lt_of_le hv (Nat.le_trans (Nat.pow_le_pow_right (by omega) hc5) (by decide))
    have HCN := hid hcn
    clear hv
    by_cases hcl : c < nd s.data.toList (a + 1)
    · obtain ⟨hl, hdg⟩ := nd_at hcl
      rw [sizeB] at hl
      have hks : k < s.size := by omega
      have hbd := dig_bounds hdg
      rw [show (a + 1) + c = k from hk.symm, ← getB s k hks] at hbd
      have HS1 := hid (show dval ((s.data.toList.drop (a + 1)).take (c + 1)) = 10 * v + ((s[k]'hks).toNat - 48) by
        rw [take_snoc (by rw [sizeB]; omega), dval_snoc, ← HD.out, ← hk, ← getB s k hks])
      obtain ⟨hx1, hx2⟩ := hbd
      generalize hx : (s[k]'hks).toNat = x at hx1 hx2 HS1
      have hi1 : (48:Int) ≤ (x:Int) := by omega
      have hi2 : (x:Int) ≤ 57 := by omega
      by_cases h5 : c = 5
      · have HR := hid (show digN s.data.toList true (a + 1) = none by unfold digN; rw [if_pos (by omega)])
        have h5e : (k:Int) - ((a:Int) + 1) = 5 := by omega
        have h5b : ((k:Int) - ((a:Int) + 1) == 5) = true := by rw [h5e]; rfl
        have hk1 : (a:Int) + 1 ≤ (k:Int) := by omega
        have hk2 : (k:Int) < (s.size:Int) := by omega
        clear hk HS1 hdg hl HV HD hcl HCN h5e h5
        go_wp2_with fail
        go_ret2
        exact ⟨by rw [HR.out]; rfl, rfl⟩
      · have HV2 := hid (show 10 * v + (x - 48) < 10 ^ (c + 1) by have := HV.out; rw [Nat.pow_succ]; omega)
        have hv4 : v < 10000 := Nat.lt_of_lt_of_le HV.out (Nat.le_trans (Nat.pow_le_pow_right (by omega) (show c ≤ 4 by omega)) (by decide))
        have hk1 : (a:Int) + 1 ≤ (k:Int) := by omega
        have hk2 : (k:Int) < (s.size:Int) := by omega
        have hne5 : ((k:Int) - ((a:Int) + 1) == 5) = false := by simp; omega
        have HK := hid hk
        clear hdg hl HV HCN hk
        go_wp2_with fail
        go_round
        case rel => exact ⟨c + 1, k + 1, 10 * v + (x - 48), by omega, by omega, by have := HK.out; omega, HV2.out, by go_num, by go_num, hid HS1.out.symm⟩
        case measure => simp [intOf]; omega
    · have hcn2 : nd s.data.toList (a + 1) = c := by omega
      obtain ⟨hle, hst⟩ := nd_stop (l := s.data.toList) (a := (a + 1)) (by rw [sizeB]; omega)
      rw [sizeB, hcn2, ← hk] at hle hst
      have HK := hid hk
      have hk1 : (a:Int) + 1 ≤ (k:Int) := by omega
      have HX := hid (show k = s.size ∨ ∃ h : k < s.size, (s[k]'h).toNat < 48 ∨ 57 < (s[k]'h).toNat from by
        rcases Nat.lt_or_ge k s.size with h | h
        · refine .inr ⟨h, ?_⟩
          have h1 := hst h
          rw [← getB s k h] at h1
          unfold isDig at h1
          have h2 : ¬ (48 ≤ (s[k]'h).toNat ∧ (s[k]'h).toNat ≤ 57) := by simpa using h1
          omega
        · exact .inl (by omega))
      clear hst hcl hcn
      by_cases hc0 : c = 0
      · have HR := hid (show digN s.data.toList true (a + 1) = none by unfold digN; rw [if_neg (by omega), if_pos (by omega)])
        have h0b : ((k:Int) == ((a:Int) + 1)) = true := by have := HK.out; simp; omega
        clear hk HD HV HCN hcn2 hc0
        rcases HX.out with hx | ⟨hks, hx | hx⟩
        · have hk2 : (s.size:Int) ≤ (k:Int) := by omega
          clear hx
          go_wp2_with fail
          all_goals first
            | (go_ret2; exact ⟨by rw [HR.out]; rfl, rfl⟩)
            | (exfalso; omega)
        · generalize hxx : (s[k]'hks).toNat = x at hx
          have hi : (x:Int) < 48 := by omega
          have hk2 : (k:Int) < (s.size:Int) := by omega
          go_wp2_with fail
          all_goals first
            | (go_ret2; exact ⟨by rw [HR.out]; rfl, rfl⟩)
            | (exfalso; omega)
        · generalize hxx : (s[k]'hks).toNat = x at hx
          have hi : (57:Int) < (x:Int) := by omega
          have hi2 : (48:Int) ≤ (x:Int) := by omega
          have hk2 : (k:Int) < (s.size:Int) := by omega
          go_wp2_with fail
          all_goals first
            | (go_ret2; exact ⟨by rw [HR.out]; rfl, rfl⟩)
            | (exfalso; omega)
      · have h0b : ((k:Int) == ((a:Int) + 1)) = false := by have := HK.out; simp; omega
        have hy0 : (a + 1) < s.size := by have := HK.out; omega
        have hyb := getB s (a + 1) hy0
        have hk3 : (a:Int) + 1 < (k:Int) := by have := HK.out; omega
        by_cases hy : byteAt s.data.toList (a + 1) = 48
        · have hyv : (((s[(a + 1)]'hy0).toNat : Int) == 48) = true := by rw [hyb, hy]; rfl
          have HR := hid (show digN s.data.toList true (a + 1) = none by unfold digN; rw [if_neg (by omega), if_neg (by omega), if_pos ⟨hy, .inr rfl⟩])
          clear hk HD HV HCN hcn2 hc0 hyb hy
          rcases HX.out with hx | ⟨hks, hx | hx⟩
          · have hk2 : (s.size:Int) ≤ (k:Int) := by omega
            clear hx
            go_wp2_with fail
            all_goals first
              | (go_ret2; exact ⟨by rw [HR.out]; rfl, rfl⟩)
              | (exfalso; omega)
          · generalize hxx : (s[k]'hks).toNat = x at hx
            have hi : (x:Int) < 48 := by omega
            have hk2 : (k:Int) < (s.size:Int) := by omega
            go_wp2_with fail
            all_goals first
              | (go_ret2; exact ⟨by rw [HR.out]; rfl, rfl⟩)
              | (exfalso; omega)
          · generalize hxx : (s[k]'hks).toNat = x at hx
            have hi : (57:Int) < (x:Int) := by omega
            have hi2 : (48:Int) ≤ (x:Int) := by omega
            have hk2 : (k:Int) < (s.size:Int) := by omega
            go_wp2_with fail
            all_goals first
              | (go_ret2; exact ⟨by rw [HR.out]; rfl, rfl⟩)
              | (exfalso; omega)
        · have hyv : (((s[(a + 1)]'hy0).toNat : Int) == 48) = false := by
            rw [hyb]
            refine beq_eq_false_iff_ne.2 fun e => hy (UInt8.toNat_inj.1 ?_)
            have : (byteAt s.data.toList (a + 1)).toNat = 48 := by omega
            exact this
          have HR := hid (show digN s.data.toList true (a + 1) = some (-(v : Int), k) by
            unfold digN
            rw [if_neg (by omega), if_neg (by omega), if_neg (fun h => hy h.1), hcn2, ← HD.out, ← HK.out]
            rfl)
          clear hk HD HV HCN hcn2 hc0 hyb hy
          rcases HX.out with hx | ⟨hks, hx | hx⟩
          · have hk2 : (s.size:Int) ≤ (k:Int) := by omega
            clear hx
            go_wp2_with fail
            all_goals first
              | (go_ret2; exact ⟨by rw [HR.out]; rfl, rfl⟩)
              | (exfalso; omega)
          · generalize hxx : (s[k]'hks).toNat = x at hx
            have hi : (x:Int) < 48 := by omega
            have hk2 : (k:Int) < (s.size:Int) := by omega
            go_wp2_with fail
            all_goals first
              | (go_ret2; exact ⟨by rw [HR.out]; rfl, rfl⟩)
              | (exfalso; omega)
          · generalize hxx : (s[k]'hks).toNat = x at hx
            have hi : (57:Int) < (x:Int) := by omega
            have hi2 : (48:Int) ≤ (x:Int) := by omega
            have hk2 : (k:Int) < (s.size:Int) := by omega
            go_wp2_with fail
            all_goals first
              | (go_ret2; exact ⟨by rw [HR.out]; rfl, rfl⟩)
              | (exfalso; omega)
set_option maxHeartbeats 3200000 in
set_option maxRecDepth 100000 in
theorem digits_plain (s : ByteArray) (a : Nat) (w : World) (hs : s.size ≤ 40000) (ha : a < s.size) (hm : byteAt s.data.toList a ≠ 45) :
    Calls Tryd.prog 18 #[.string s, .int .i64 (a : Int)] w fun e w' => PDig (digN s.data.toList false a) e ∧ w = w' := by
  have h45 : (((s[a]'ha).toNat : Int) == 45) = false := by
    rw [getB s a ha]
    refine beq_eq_false_iff_ne.2 fun e => hm (UInt8.toNat_inj.1 ?_)
    have : (byteAt s.data.toList a).toNat = 45 := by omega
    exact this
  go_enter Tryd.func18, Tryd.ntmps18
  go_wp2_with fail
  go_loop [7, 8] (fun s7 s8 => ∃ (c k v : Nat), c ≤ 5 ∧ c ≤ nd s.data.toList a ∧ k = a + c ∧ v < 10 ^ c ∧ s7 = .int .i64 (v : Int) ∧ s8 = .int .i64 (k : Int) ∧ Hid (v = dval ((s.data.toList.drop a).take c))) (fun _ s8 => s.size - (intOf s8).toNat)
  case atStart => exact ⟨0, a, 0, by omega, Nat.zero_le _, rfl, by decide, rfl, by go_num, hid rfl⟩
  case round =>
    obtain ⟨c, k, v, hc5, hcn, hk, hv, rfl, rfl, HD⟩ := hrel
    have HV := hid hv
    have hv5 : v < 100000 := Nat.lt_of_lt_of_le hv (Nat.le_trans (Nat.pow_le_pow_right (by omega) hc5) (by decide))
    have HCN := hid hcn
    clear hv
    by_cases hcl : c < nd s.data.toList a
    · obtain ⟨hl, hdg⟩ := nd_at hcl
      rw [sizeB] at hl
      have hks : k < s.size := by omega
      have hbd := dig_bounds hdg
      rw [show a + c = k from hk.symm, ← getB s k hks] at hbd
      have HS1 := hid (show dval ((s.data.toList.drop a).take (c + 1)) = 10 * v + ((s[k]'hks).toNat - 48) by
        rw [take_snoc (by rw [sizeB]; omega), dval_snoc, ← HD.out, ← hk, ← getB s k hks])
      obtain ⟨hx1, hx2⟩ := hbd
      generalize hx : (s[k]'hks).toNat = x at hx1 hx2 HS1
      have hi1 : (48:Int) ≤ (x:Int) := by omega
      have hi2 : (x:Int) ≤ 57 := by omega
      by_cases h5 : c = 5
      · have HR := hid (show digN s.data.toList false a = none by unfold digN; rw [if_pos (by omega)])
        have h5e : (k:Int) - (a:Int) = 5 := by omega
        have h5b : ((k:Int) - (a:Int) == 5) = true := by rw [h5e]; rfl
        have hk1 : (a:Int) ≤ (k:Int) := by omega
        have hk2 : (k:Int) < (s.size:Int) := by omega
        clear hk HS1 hdg hl HV HD hcl HCN h5e h5
        go_wp2_with fail
        go_ret2
        exact ⟨by rw [HR.out]; rfl, rfl⟩
      · have HV2 := hid (show 10 * v + (x - 48) < 10 ^ (c + 1) by have := HV.out; rw [Nat.pow_succ]; omega)
        have hv4 : v < 10000 := Nat.lt_of_lt_of_le HV.out (Nat.le_trans (Nat.pow_le_pow_right (by omega) (show c ≤ 4 by omega)) (by decide))
        have hk1 : (a:Int) ≤ (k:Int) := by omega
        have hk2 : (k:Int) < (s.size:Int) := by omega
        have hne5 : ((k:Int) - (a:Int) == 5) = false := by simp; omega
        have HK := hid hk
        clear hdg hl HV HCN hk
        go_wp2_with fail
        go_round
        case rel => exact ⟨c + 1, k + 1, 10 * v + (x - 48), by omega, by omega, by have := HK.out; omega, HV2.out, by go_num, by go_num, hid HS1.out.symm⟩
        case measure => simp [intOf]; omega
    · have hcn2 : nd s.data.toList a = c := by omega
      obtain ⟨hle, hst⟩ := nd_stop (l := s.data.toList) (a := a) (by rw [sizeB]; omega)
      rw [sizeB, hcn2, ← hk] at hle hst
      have HK := hid hk
      have hk1 : (a:Int) ≤ (k:Int) := by omega
      have HX := hid (show k = s.size ∨ ∃ h : k < s.size, (s[k]'h).toNat < 48 ∨ 57 < (s[k]'h).toNat from by
        rcases Nat.lt_or_ge k s.size with h | h
        · refine .inr ⟨h, ?_⟩
          have h1 := hst h
          rw [← getB s k h] at h1
          unfold isDig at h1
          have h2 : ¬ (48 ≤ (s[k]'h).toNat ∧ (s[k]'h).toNat ≤ 57) := by simpa using h1
          omega
        · exact .inl (by omega))
      clear hst hcl hcn
      by_cases hc0 : c = 0
      · have HR := hid (show digN s.data.toList false a = none by unfold digN; rw [if_neg (by omega), if_pos (by omega)])
        have h0b : ((k:Int) == (a:Int)) = true := by have := HK.out; simp; omega
        clear hk HD HV HCN hcn2 hc0
        rcases HX.out with hx | ⟨hks, hx | hx⟩
        · have hk2 : (s.size:Int) ≤ (k:Int) := by omega
          clear hx
          go_wp2_with fail
          all_goals first
            | (go_ret2; exact ⟨by rw [HR.out]; rfl, rfl⟩)
            | (exfalso; omega)
        · generalize hxx : (s[k]'hks).toNat = x at hx
          have hi : (x:Int) < 48 := by omega
          have hk2 : (k:Int) < (s.size:Int) := by omega
          go_wp2_with fail
          all_goals first
            | (go_ret2; exact ⟨by rw [HR.out]; rfl, rfl⟩)
            | (exfalso; omega)
        · generalize hxx : (s[k]'hks).toNat = x at hx
          have hi : (57:Int) < (x:Int) := by omega
          have hi2 : (48:Int) ≤ (x:Int) := by omega
          have hk2 : (k:Int) < (s.size:Int) := by omega
          go_wp2_with fail
          all_goals first
            | (go_ret2; exact ⟨by rw [HR.out]; rfl, rfl⟩)
            | (exfalso; omega)
      · have h0b : ((k:Int) == (a:Int)) = false := by have := HK.out; simp; omega
        have hy0 : a < s.size := by have := HK.out; omega
        have hyb := getB s a hy0
        have hk3 : (a:Int) < (k:Int) := by have := HK.out; omega
        by_cases hy : byteAt s.data.toList a = 48
        · have hyv : (((s[a]'hy0).toNat : Int) == 48) = true := by rw [hyb, hy]; rfl
          by_cases hc1 : 1 < c
          · have HR := hid (show digN s.data.toList false a = none by unfold digN; rw [if_neg (by omega), if_neg (by omega), if_pos ⟨hy, .inl (by omega)⟩])
            have hgt : (1:Int) < (k:Int) - (a:Int) := by have := HK.out; omega
            clear hk HD HV HCN hcn2 hc0 hyb hy
            rcases HX.out with hx | ⟨hks, hx | hx⟩
            · have hk2 : (s.size:Int) ≤ (k:Int) := by omega
              clear hx
              go_wp2_with fail
              all_goals first
                | (go_ret2; exact ⟨by rw [HR.out]; rfl, rfl⟩)
                | (exfalso; omega)
            · generalize hxx : (s[k]'hks).toNat = x at hx
              have hi : (x:Int) < 48 := by omega
              have hk2 : (k:Int) < (s.size:Int) := by omega
              go_wp2_with fail
              all_goals first
                | (go_ret2; exact ⟨by rw [HR.out]; rfl, rfl⟩)
                | (exfalso; omega)
            · generalize hxx : (s[k]'hks).toNat = x at hx
              have hi : (57:Int) < (x:Int) := by omega
              have hi2 : (48:Int) ≤ (x:Int) := by omega
              have hk2 : (k:Int) < (s.size:Int) := by omega
              go_wp2_with fail
              all_goals first
                | (go_ret2; exact ⟨by rw [HR.out]; rfl, rfl⟩)
                | (exfalso; omega)
          · have hgt : (k:Int) - (a:Int) ≤ 1 := by have := HK.out; omega
            have HR := hid (show digN s.data.toList false a = some ((v : Int), k) by
              unfold digN
              rw [if_neg (by omega), if_neg (by omega), if_neg (by rintro ⟨_, h | h⟩; omega; cases h), hcn2, ← HD.out, ← HK.out]
              rfl)
            clear hk HD HV HCN hcn2 hc0 hyb hy
            rcases HX.out with hx | ⟨hks, hx | hx⟩
            · have hk2 : (s.size:Int) ≤ (k:Int) := by omega
              clear hx
              go_wp2_with fail
              all_goals first
                | (go_ret2; exact ⟨by rw [HR.out]; rfl, rfl⟩)
                | (exfalso; omega)
            · generalize hxx : (s[k]'hks).toNat = x at hx
              have hi : (x:Int) < 48 := by omega
              have hk2 : (k:Int) < (s.size:Int) := by omega
              go_wp2_with fail
              all_goals first
                | (go_ret2; exact ⟨by rw [HR.out]; rfl, rfl⟩)
                | (exfalso; omega)
            · generalize hxx : (s[k]'hks).toNat = x at hx
              have hi : (57:Int) < (x:Int) := by omega
              have hi2 : (48:Int) ≤ (x:Int) := by omega
              have hk2 : (k:Int) < (s.size:Int) := by omega
              go_wp2_with fail
              all_goals first
                | (go_ret2; exact ⟨by rw [HR.out]; rfl, rfl⟩)
                | (exfalso; omega)
        · have hyv : (((s[a]'hy0).toNat : Int) == 48) = false := by
            rw [hyb]
            refine beq_eq_false_iff_ne.2 fun e => hy (UInt8.toNat_inj.1 ?_)
            have : (byteAt s.data.toList a).toNat = 48 := by omega
            exact this
          have HR := hid (show digN s.data.toList false a = some ((v : Int), k) by
            unfold digN
            rw [if_neg (by omega), if_neg (by omega), if_neg (fun h => hy h.1), hcn2, ← HD.out, ← HK.out]
            rfl)
          clear hk HD HV HCN hcn2 hc0 hyb hy
          rcases HX.out with hx | ⟨hks, hx | hx⟩
          · have hk2 : (s.size:Int) ≤ (k:Int) := by omega
            clear hx
            go_wp2_with fail
            all_goals first
              | (go_ret2; exact ⟨by rw [HR.out]; rfl, rfl⟩)
              | (exfalso; omega)
          · generalize hxx : (s[k]'hks).toNat = x at hx
            have hi : (x:Int) < 48 := by omega
            have hk2 : (k:Int) < (s.size:Int) := by omega
            go_wp2_with fail
            all_goals first
              | (go_ret2; exact ⟨by rw [HR.out]; rfl, rfl⟩)
              | (exfalso; omega)
          · generalize hxx : (s[k]'hks).toNat = x at hx
            have hi : (57:Int) < (x:Int) := by omega
            have hi2 : (48:Int) ≤ (x:Int) := by omega
            have hk2 : (k:Int) < (s.size:Int) := by omega
            go_wp2_with fail
            all_goals first
              | (go_ret2; exact ⟨by rw [HR.out]; rfl, rfl⟩)
              | (exfalso; omega)
set_option maxHeartbeats 3200000 in
set_option maxRecDepth 100000 in
theorem digits_end (s : ByteArray) (a : Nat) (w : World) (hs : s.size ≤ 40000) (ha : a = s.size) :
    Calls Tryd.prog 18 #[.string s, .int .i64 (a : Int)] w fun e w' => PDig (digN s.data.toList false a) e ∧ w = w' := by
  have h45 : (s.size:Int) ≤ (a:Int) := by omega
  have ha2 : a ≤ s.size := by omega
  clear ha
  go_enter Tryd.func18, Tryd.ntmps18
  go_wp2_with fail
  go_loop [7, 8] (fun s7 s8 => ∃ (c k v : Nat), c ≤ 5 ∧ c ≤ nd s.data.toList a ∧ k = a + c ∧ v < 10 ^ c ∧ s7 = .int .i64 (v : Int) ∧ s8 = .int .i64 (k : Int) ∧ Hid (v = dval ((s.data.toList.drop a).take c))) (fun _ s8 => s.size - (intOf s8).toNat)
  case atStart => exact ⟨0, a, 0, by omega, Nat.zero_le _, rfl, by decide, rfl, by go_num, hid rfl⟩
  case round =>
    obtain ⟨c, k, v, hc5, hcn, hk, hv, rfl, rfl, HD⟩ := hrel
    have HV := hid hv
    have hv5 : v < 100000 := Nat.lt_of_lt_of_le hv (Nat.le_trans (Nat.pow_le_pow_right (by omega) hc5) (by decide))
    have HCN := hid hcn
    clear hv
    by_cases hcl : c < nd s.data.toList a
    · obtain ⟨hl, hdg⟩ := nd_at hcl
      rw [sizeB] at hl
      have hks : k < s.size := by omega
      have hbd := dig_bounds hdg
      rw [show a + c = k from hk.symm, ← getB s k hks] at hbd
      have HS1 := hid (show dval ((s.data.toList.drop a).take (c + 1)) = 10 * v + ((s[k]'hks).toNat - 48) by
        rw [take_snoc (by rw [sizeB]; omega), dval_snoc, ← HD.out, ← hk, ← getB s k hks])
      obtain ⟨hx1, hx2⟩ := hbd
      generalize hx : (s[k]'hks).toNat = x at hx1 hx2 HS1
      have hi1 : (48:Int) ≤ (x:Int) := by omega
      have hi2 : (x:Int) ≤ 57 := by omega
      by_cases h5 : c = 5
      · have HR := hid (show digN s.data.toList false a = none by unfold digN; rw [if_pos (by omega)])
        have h5e : (k:Int) - (a:Int) = 5 := by omega
        have h5b : ((k:Int) - (a:Int) == 5) = true := by rw [h5e]; rfl
        have hk1 : (a:Int) ≤ (k:Int) := by omega
        have hk2 : (k:Int) < (s.size:Int) := by omega
        clear hk HS1 hdg hl HV HD hcl HCN h5e h5
        go_wp2_with fail
        go_ret2
        exact ⟨by rw [HR.out]; rfl, rfl⟩
      · have HV2 := hid (show 10 * v + (x - 48) < 10 ^ (c + 1) by have := HV.out; rw [Nat.pow_succ]; omega)
        have hv4 : v < 10000 := Nat.lt_of_lt_of_le HV.out (Nat.le_trans (Nat.pow_le_pow_right (by omega) (show c ≤ 4 by omega)) (by decide))
        have hk1 : (a:Int) ≤ (k:Int) := by omega
        have hk2 : (k:Int) < (s.size:Int) := by omega
        have hne5 : ((k:Int) - (a:Int) == 5) = false := by simp; omega
        have HK := hid hk
        clear hdg hl HV HCN hk
        go_wp2_with fail
        go_round
        case rel => exact ⟨c + 1, k + 1, 10 * v + (x - 48), by omega, by omega, by have := HK.out; omega, HV2.out, by go_num, by go_num, hid HS1.out.symm⟩
        case measure => simp [intOf]; omega
    · have hcn2 : nd s.data.toList a = c := by omega
      obtain ⟨hle, hst⟩ := nd_stop (l := s.data.toList) (a := a) (by rw [sizeB]; omega)
      rw [sizeB, hcn2, ← hk] at hle hst
      have HK := hid hk
      have hk1 : (a:Int) ≤ (k:Int) := by omega
      have HX := hid (show k = s.size ∨ ∃ h : k < s.size, (s[k]'h).toNat < 48 ∨ 57 < (s[k]'h).toNat from by
        rcases Nat.lt_or_ge k s.size with h | h
        · refine .inr ⟨h, ?_⟩
          have h1 := hst h
          rw [← getB s k h] at h1
          unfold isDig at h1
          have h2 : ¬ (48 ≤ (s[k]'h).toNat ∧ (s[k]'h).toNat ≤ 57) := by simpa using h1
          omega
        · exact .inl (by omega))
      clear hst hcl hcn
      by_cases hc0 : c = 0
      · have HR := hid (show digN s.data.toList false a = none by unfold digN; rw [if_neg (by omega), if_pos (by omega)])
        have h0b : ((k:Int) == (a:Int)) = true := by have := HK.out; simp; omega
        clear hk HD HV HCN hcn2 hc0
        rcases HX.out with hx | ⟨hks, hx | hx⟩
        · have hk2 : (s.size:Int) ≤ (k:Int) := by omega
          clear hx
          go_wp2_with fail
          all_goals first
            | (go_ret2; exact ⟨by rw [HR.out]; rfl, rfl⟩)
            | (exfalso; omega)
        · generalize hxx : (s[k]'hks).toNat = x at hx
          have hi : (x:Int) < 48 := by omega
          have hk2 : (k:Int) < (s.size:Int) := by omega
          go_wp2_with fail
          all_goals first
            | (go_ret2; exact ⟨by rw [HR.out]; rfl, rfl⟩)
            | (exfalso; omega)
        · generalize hxx : (s[k]'hks).toNat = x at hx
          have hi : (57:Int) < (x:Int) := by omega
          have hi2 : (48:Int) ≤ (x:Int) := by omega
          have hk2 : (k:Int) < (s.size:Int) := by omega
          go_wp2_with fail
          all_goals first
            | (go_ret2; exact ⟨by rw [HR.out]; rfl, rfl⟩)
            | (exfalso; omega)
      · have h0b : ((k:Int) == (a:Int)) = false := by have := HK.out; simp; omega
        have hy0 : a < s.size := by have := HK.out; omega
        have hyb := getB s a hy0
        have hk3 : (a:Int) < (k:Int) := by have := HK.out; omega
        by_cases hy : byteAt s.data.toList a = 48
        · have hyv : (((s[a]'hy0).toNat : Int) == 48) = true := by rw [hyb, hy]; rfl
          by_cases hc1 : 1 < c
          · have HR := hid (show digN s.data.toList false a = none by unfold digN; rw [if_neg (by omega), if_neg (by omega), if_pos ⟨hy, .inl (by omega)⟩])
            have hgt : (1:Int) < (k:Int) - (a:Int) := by have := HK.out; omega
            clear hk HD HV HCN hcn2 hc0 hyb hy
            rcases HX.out with hx | ⟨hks, hx | hx⟩
            · have hk2 : (s.size:Int) ≤ (k:Int) := by omega
              clear hx
              go_wp2_with fail
              all_goals first
                | (go_ret2; exact ⟨by rw [HR.out]; rfl, rfl⟩)
                | (exfalso; omega)
            · generalize hxx : (s[k]'hks).toNat = x at hx
              have hi : (x:Int) < 48 := by omega
              have hk2 : (k:Int) < (s.size:Int) := by omega
              go_wp2_with fail
              all_goals first
                | (go_ret2; exact ⟨by rw [HR.out]; rfl, rfl⟩)
                | (exfalso; omega)
            · generalize hxx : (s[k]'hks).toNat = x at hx
              have hi : (57:Int) < (x:Int) := by omega
              have hi2 : (48:Int) ≤ (x:Int) := by omega
              have hk2 : (k:Int) < (s.size:Int) := by omega
              go_wp2_with fail
              all_goals first
                | (go_ret2; exact ⟨by rw [HR.out]; rfl, rfl⟩)
                | (exfalso; omega)
          · have hgt : (k:Int) - (a:Int) ≤ 1 := by have := HK.out; omega
            have HR := hid (show digN s.data.toList false a = some ((v : Int), k) by
              unfold digN
              rw [if_neg (by omega), if_neg (by omega), if_neg (by rintro ⟨_, h | h⟩; omega; cases h), hcn2, ← HD.out, ← HK.out]
              rfl)
            clear hk HD HV HCN hcn2 hc0 hyb hy
            rcases HX.out with hx | ⟨hks, hx | hx⟩
            · have hk2 : (s.size:Int) ≤ (k:Int) := by omega
              clear hx
              go_wp2_with fail
              all_goals first
                | (go_ret2; exact ⟨by rw [HR.out]; rfl, rfl⟩)
                | (exfalso; omega)
            · generalize hxx : (s[k]'hks).toNat = x at hx
              have hi : (x:Int) < 48 := by omega
              have hk2 : (k:Int) < (s.size:Int) := by omega
              go_wp2_with fail
              all_goals first
                | (go_ret2; exact ⟨by rw [HR.out]; rfl, rfl⟩)
                | (exfalso; omega)
            · generalize hxx : (s[k]'hks).toNat = x at hx
              have hi : (57:Int) < (x:Int) := by omega
              have hi2 : (48:Int) ≤ (x:Int) := by omega
              have hk2 : (k:Int) < (s.size:Int) := by omega
              go_wp2_with fail
              all_goals first
                | (go_ret2; exact ⟨by rw [HR.out]; rfl, rfl⟩)
                | (exfalso; omega)
        · have hyv : (((s[a]'hy0).toNat : Int) == 48) = false := by
            rw [hyb]
            refine beq_eq_false_iff_ne.2 fun e => hy (UInt8.toNat_inj.1 ?_)
            have : (byteAt s.data.toList a).toNat = 48 := by omega
            exact this
          have HR := hid (show digN s.data.toList false a = some ((v : Int), k) by
            unfold digN
            rw [if_neg (by omega), if_neg (by omega), if_neg (fun h => hy h.1), hcn2, ← HD.out, ← HK.out]
            rfl)
          clear hk HD HV HCN hcn2 hc0 hyb hy
          rcases HX.out with hx | ⟨hks, hx | hx⟩
          · have hk2 : (s.size:Int) ≤ (k:Int) := by omega
            clear hx
            go_wp2_with fail
            all_goals first
              | (go_ret2; exact ⟨by rw [HR.out]; rfl, rfl⟩)
              | (exfalso; omega)
          · generalize hxx : (s[k]'hks).toNat = x at hx
            have hi : (x:Int) < 48 := by omega
            have hk2 : (k:Int) < (s.size:Int) := by omega
            go_wp2_with fail
            all_goals first
              | (go_ret2; exact ⟨by rw [HR.out]; rfl, rfl⟩)
              | (exfalso; omega)
          · generalize hxx : (s[k]'hks).toNat = x at hx
            have hi : (57:Int) < (x:Int) := by omega
            have hi2 : (48:Int) ≤ (x:Int) := by omega
            have hk2 : (k:Int) < (s.size:Int) := by omega
            go_wp2_with fail
            all_goals first
              | (go_ret2; exact ⟨by rw [HR.out]; rfl, rfl⟩)
              | (exfalso; omega)
theorem digits_any (s : ByteArray) (a : Nat) (w : World) (hs : s.size ≤ 40000) (ha : a ≤ s.size) :
    Calls Tryd.prog 18 #[.string s, .int .i64 (a : Int)] w fun e w' => PDig (digS s.data.toList a) e ∧ w = w' := by
  unfold digS
  by_cases h : a < s.data.toList.length ∧ byteAt s.data.toList a = 45
  · rw [if_pos h]
    rw [sizeB] at h
    exact digits_minus s a w hs h.1 h.2
  · rw [if_neg h]
    rw [sizeB] at h
    rcases Nat.lt_or_ge a s.size with k | k
    · exact digits_plain s a w hs k (fun e => h ⟨k, e⟩)
    · have : a = s.size := by omega
      exact digits_end s a w hs this

end Go.Proofs.YtijkoaggcmgjiabDoor
