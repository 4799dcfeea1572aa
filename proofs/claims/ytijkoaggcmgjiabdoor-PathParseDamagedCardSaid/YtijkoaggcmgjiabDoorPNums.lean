/- What parseNumbers of package path returns. -/
import Derived.Test.YtijkoaggcmgjiabDoorPNum
namespace Go.Proofs.YtijkoaggcmgjiabDoor
open Go Go.RowKit
set_option linter.unusedVariables false
set_option linter.unusedSimpArgs false

/-- A slice that holds words, in a block below B. -/
def Strs (B : Nat) (W : World) (A : Option Addr) (bs : List ByteArray) : Prop := bs ≠ [] → ∃ g o, A = some ⟨g, o, none⟩ ∧ g < B ∧ ∀ i b, bs[i]? = some b → W.cell? ⟨g, o + i, none⟩ = some (.string b)
theorem Strs.below {B : Nat} {W W' : World} {A : Option Addr} {bs : List ByteArray} (h : Strs B W A bs) (hb : Below B W W') : Strs B W' A bs := fun hn => by
  obtain ⟨g, o, e, hg, hc⟩ := h hn
  exact ⟨g, o, e, hg, fun i b hi => (hb.cell hg).trans (hc i b hi)⟩
theorem Strs.up {B B' : Nat} {W : World} {A : Option Addr} {bs : List ByteArray} (h : Strs B W A bs) (hb : B ≤ B') : Strs B' W A bs := fun hn => by
  obtain ⟨g, o, e, hg, hc⟩ := h hn
  exact ⟨g, o, e, Nat.lt_of_lt_of_le hg hb, hc⟩
theorem Strs.nil (B : Nat) (W : World) (A : Option Addr) : Strs B W A [] := fun h => absurd rfl h

theorem Strs.drop {B : Nat} {W : World} {A : Option Addr} {bs : List ByteArray} (h : Strs B W A bs) (i : Nat) : Strs B W (Option.map (fun x => x.add i) A) (bs.drop i) := fun hn => by
  obtain ⟨g, o, rfl, hg, hc⟩ := h (fun e => hn (by rw [e]; simp))
  refine ⟨g, o + i, ?_, hg, fun j b hj => ?_⟩
  · show some ((⟨g, o, none⟩ : Addr).add i) = _
    unfold Addr.add
    split
    · rename_i e; simp [e]
    · rfl
  · rw [List.getElem?_drop] at hj
    rw [Nat.add_assoc]
    exact hc (i + j) b hj

def mapN : List ByteArray → Option (List Int)
  | [] => some []
  | b :: r => match numB b with
    | none => none
    | some z => match mapN r with
      | none => none
      | some zs => some (z :: zs)
theorem mapN_snoc : ∀ (l : List ByteArray) (b : ByteArray) (zs : List Int), mapN l = some zs → mapN (l ++ [b]) = match numB b with
    | none => none
    | some z => some (zs ++ [z])
  | [], b, zs, h => by
    obtain rfl : [] = zs := by simpa [mapN] using h
    simp only [List.nil_append, mapN]
  | c :: l, b, zs, h => by
    rw [mapN] at h
    rw [List.cons_append, mapN]
    cases hc : numB c with
    | none => rw [hc] at h; cases h
    | some z =>
      rw [hc] at h
      simp only at h ⊢
      cases hl : mapN l with
      | none => rw [hl] at h; cases h
      | some ys =>
        rw [hl] at h
        obtain rfl : z :: ys = zs := by simpa using h
        rw [mapN_snoc l b ys hl]
        cases numB b <;> rfl
theorem mapN_none : ∀ (l m : List ByteArray), mapN l = none → mapN (l ++ m) = none
  | c :: l, m, h => by
    rw [mapN] at h
    rw [List.cons_append, mapN]
    cases hc : numB c with
    | none => rfl
    | some z =>
      rw [hc] at h
      simp only at h ⊢
      cases hl : mapN l with
      | none => rw [mapN_none l m hl]
      | some ys => rw [hl] at h; cases h
theorem mapN_length : ∀ (l : List ByteArray) (zs : List Int), mapN l = some zs → zs.length = l.length
  | [], zs, h => by
    obtain rfl : [] = zs := by simpa [mapN] using h
    rfl
  | c :: l, zs, h => by
    rw [mapN] at h
    cases hc : numB c with
    | none => rw [hc] at h; cases h
    | some z =>
      rw [hc] at h
      simp only at h
      cases hl : mapN l with
      | none => rw [hl] at h; cases h
      | some ys =>
        rw [hl] at h
        obtain rfl : z :: ys = zs := by simpa using h
        simp [mapN_length l ys hl]
/-- k numbers, and the words behind them. -/
def numsB (k : Nat) (bs : List ByteArray) : Option (List Int × List ByteArray) := if bs.length < k then none else (mapN (bs.take k)).map fun zs => (zs, bs.drop k)

/-- Numbers laid at offsets. -/
def setN (c : Array Value) : List Nat → List Int → Array Value
  | j :: js, z :: zs => setN (c.setIfInBounds j (.int .i64 z)) js zs
  | _, _ => c
theorem setN_nil (c : Array Value) (js : List Nat) : setN c js [] = c := by cases js <;> rfl
theorem setN_size : ∀ (js : List Nat) (zs : List Int) (c : Array Value), (setN c js zs).size = c.size
  | j :: js, z :: zs, c => by rw [setN, setN_size js zs]; simp
  | [], _, _ => by simp [setN]
  | _ :: _, [], _ => rfl
theorem setN_snoc : ∀ (js : List Nat) (zs : List Int) (c : Array Value) (z : Int) (j : Nat), js[zs.length]? = some j → setN c js (zs ++ [z]) = (setN c js zs).setIfInBounds j (.int .i64 z)
  | k :: js, [], c, z, j, h => by
    obtain rfl : k = j := by simpa using h
    rw [List.nil_append, setN, setN_nil, setN_nil]
  | k :: js, y :: zs, c, z, j, h => by
    rw [List.cons_append, setN, setN]
    exact setN_snoc js zs _ z j (by simpa using h)
  | [], zs, c, z, j, h => by simp at h

def ptrs (B : Nat) (js : List Nat) : Array Value := (js.map fun j => Value.pointer (some ⟨B, j, none⟩)).toArray
theorem str_at {l : List ByteArray} {i : Nat} (h : i < l.length) : l.take (i + 1) = l.take i ++ [l[i]] := List.take_succ_eq_append_getElem h

/-- What parseNumbers answers. -/
def PNums (B k : Nat) (bs : List ByteArray) (zs : List Int) (e : Ending) (w : World) : Prop := match numsB k bs with
  | some (ys, r) => zs = ys ∧ ∃ A n c, e = .returned (.tuple #[.slice A n c, .bool true]) ∧ n = r.length ∧ n ≤ c ∧ c ≤ maxLen ∧ Strs B w A r
  | none => e = .returned (.tuple #[.slice none 0 0, .bool false])

set_option maxHeartbeats 3200000 in
set_option maxRecDepth 100000 in
theorem parseNumbers_any (A : Option Addr) (bs : List ByteArray) (n c k : Nat) (pb B B0 : Nat) (h0 : B0 ≤ B) (js : List Nat) (c0 : Array Value) (w : World) (hn : n = bs.length) (hc : n ≤ c ∧ c ≤ maxLen) (hs : Strs B0 w A bs) (hl : ∀ b ∈ bs, b.size ≤ 4294967295)
    (hk : k = js.length) (hk5 : k ≤ 5) (hj : ∀ j ∈ js, j < c0.size) (hV : Var w B c0 38) (hP : Var w pb (ptrs B js) 57) (hne : pb ≠ B) (he : ∀ w', Below B w w' → Env w') :
    Calls Tryd.prog 25 #[.slice A n c, .slice (some ⟨pb, 0, none⟩) k k] w fun e w' => (∃ zs, PNums B0 k bs zs e w' ∧ Var w' B (setN c0 js zs) 38) ∧ Below B w w' := by
  have HS := hid hs
  have HL := hid hl
  have HJ := hid hj
  have HV := hid hV
  have HP := hid hP
  have HE := hid he
  have HBL := hid hV.lt
  have HK := hid hk
  have HN := hid hn
  obtain ⟨hc1, hc2⟩ := hc
  have HC2 := hid hc2
  have hc3 : (c : Int) ≤ 9223372036854775807 := by unfold maxLen at hc2; omega
  clear hs hl hj hV hP he hk hc2 hn
  by_cases hlt : n < k
  · have HR := hid (show numsB k bs = none by unfold numsB; rw [if_pos (by rw [← HN.out]; exact hlt)])
    go_enter Tryd.func25, Tryd.ntmps25
    go_wp2_with fail
    go_ret2
    exact ⟨⟨[], by unfold PNums; rw [HR.out]; rfl, by rw [setN_nil]; exact HV.out⟩, Below.refl _ _⟩
  · go_enter Tryd.func25, Tryd.ntmps25
    go_wp2_with fail
    go_loopw [17] (fun s17 wr => ∃ (i : Nat) (zs : List Int), i ≤ k ∧ zs.length = i ∧ s17 = .int .i64 i ∧ Hid (mapN (bs.take i) = some zs) ∧ Hid (Var wr B (setN c0 js zs) 38) ∧ Hid (Below B w wr) ∧ Hid (Var wr pb (ptrs B js) 57)) (fun s17 _ => k - (intOf s17).toNat)
    case atStart => exact ⟨0, [], Nat.zero_le _, rfl, rfl, hid rfl, hid (by rw [setN_nil]; exact HV.out), hid (Below.refl _ _), HP⟩
    case round =>
      obtain ⟨i, zs, hi, hzl, rfl, HM, HVJ, HBJ, HPJ⟩ := hrel
      by_cases hik : i < k
      · have hib : i < bs.length := by have := HN.out; omega
        obtain ⟨g, o, rfl, hg, hcell⟩ := (HS.out.below (HBJ.out.mono h0)) (fun e => by rw [e] at hib; simp at hib)
        have hword := hcell i bs[i] (List.getElem?_eq_getElem hib)
        clear hcell
        have HLb := hid (HL.out bs[i] (List.getElem_mem hib))
        have hij : i < js.length := by rw [← HK.out]; exact hik
        have hptr : wr.cell? ⟨pb, i, none⟩ = some (.pointer (some ⟨B, js[i], none⟩)) := by
          rw [HPJ.out.cell]
          unfold ptrs
          simp [hij]
        have HT := hid (str_at hib)
        have HJI := hid (show js[zs.length]? = some js[i] by rw [hzl]; exact List.getElem?_eq_getElem hij)
        have HJL := hid (HJ.out js[i] (List.getElem_mem hij))
        generalize bs[i] = b at hword HLb HT
        generalize js[i] = j at hptr HJI HJL
        go_wp2_with fail
        (with_reducible refine (parseNumber_any b HLb.out _ (HE.out _ HBJ.out)).mono ?_); rintro e w1 ⟨hr, hb⟩
        have hB := HVJ.out.lt
        have HB1 := hid (HBJ.out.trans (hb.mono (Nat.le_of_lt hB)))
        have HV1 := hid (HVJ.out.next hb)
        have HP1 := hid (HPJ.out.next hb)
        clear hb hword hptr HVJ HBJ HPJ
        cases hb : numB b with
        | none =>
          rw [hb] at hr
          obtain rfl : e = _ := hr
          have HR := hid (show numsB k bs = none by
            unfold numsB
            rw [if_neg (by rw [← HN.out]; exact hlt)]
            have e1 : bs.take k = bs.take (i + 1) ++ (bs.take k).drop (i + 1) := by
              have : bs.take (i + 1) = (bs.take k).take (i + 1) := by rw [List.take_take, Nat.min_eq_left (by omega)]
              rw [this, List.take_append_drop]
            rw [e1, mapN_none _ _ (by rw [HT.out, mapN_snoc _ _ _ HM.out, hb])]
            rfl)
          go_wp2_with fail
          go_ret2
          exact ⟨⟨zs, by unfold PNums; rw [HR.out]; rfl, HV1.out⟩, HB1.out⟩
        | some z =>
          rw [hb] at hr
          obtain rfl : e = _ := hr
          have HM1 := hid (show mapN (bs.take (i + 1)) = some (zs ++ [z]) by rw [HT.out, mapN_snoc _ _ _ HM.out, hb])
          have hcj : w1.cell? ⟨B, j, none⟩ = some ((setN c0 js zs)[j]'(by rw [setN_size]; exact HJL.out)) := by
            rw [HV1.out.cell]
            exact Array.getElem?_eq_getElem _
          generalize (setN c0 js zs)[j]'(by rw [setN_size]; exact HJL.out) = old at hcj
          have hfj := HV1.out.free j
          have HV2 := hid (show Var (w1.setCell ⟨B, j, none⟩ (.int .i64 z)) B (setN c0 js (zs ++ [z])) 38 by rw [setN_snoc _ _ _ _ _ HJI.out]; exact HV1.out.set _)
          have HP2 := hid (HP1.out.far (p := ⟨B, j, none⟩) hne (.int .i64 z))
          have HB2 := hid (HB1.out.setCell (p := ⟨B, j, none⟩) (Nat.le_refl B) (.int .i64 z))
          clear hb
          go_wp2_with fail
          go_roundw
          case rel => exact ⟨i + 1, zs ++ [z], by omega, by simp [hzl], by go_num, HM1, HV2, HB2, HP2⟩
          case measure => simp [intOf]; omega
      · have hik2 : i = k := by omega
        subst hik2
        have HR := hid (show numsB i bs = some (zs, bs.drop i) by unfold numsB; rw [if_neg (by rw [← HN.out]; exact hlt), HM.out]; rfl)
        have HRL := hid (show n - i = (bs.drop i).length by rw [List.length_drop, ← HN.out])
        have HSD := hid ((HS.out.below (HBJ.out.mono h0)).drop i)
        go_wp2_with fail
        case inl =>
          have HDN := hid (show bs.drop i = [] from List.eq_nil_of_length_eq_zero (by rw [← HRL.out]; omega))
          go_ret2
          exact ⟨⟨zs, by unfold PNums; rw [HR.out]; exact ⟨rfl, _, _, _, rfl, HRL.out, by omega, Nat.zero_le _, by rw [HDN.out]; exact Strs.nil _ _ _⟩, HVJ.out⟩, HBJ.out⟩
        case inr =>
          go_ret2
          exact ⟨⟨zs, by unfold PNums; rw [HR.out]; exact ⟨rfl, _, _, _, rfl, HRL.out, by omega, by have := HC2.out; omega, HSD.out⟩, HVJ.out⟩, HBJ.out⟩

end Go.Proofs.YtijkoaggcmgjiabDoor
