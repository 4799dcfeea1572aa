/- What Parse of package path returns. -/
import Derived.Test.YtijkoaggcmgjiabDoorPSeN
namespace Go.Proofs.YtijkoaggcmgjiabDoor
open Go Go.RowKit
set_option linter.unusedVariables false
set_option linter.unusedSimpArgs false

theorem numsB_less {k : Nat} {bs r : List ByteArray} {zs : List Int} (h : numsB k bs = some (zs, r)) : r.length ≤ bs.length := by
  unfold numsB at h
  split at h
  · cases h
  · cases hm : mapN (bs.take k) with
    | none => rw [hm] at h; cases h
    | some ys =>
      rw [hm] at h
      obtain ⟨_, rfl⟩ : ys = zs ∧ bs.drop k = r := by simpa using h
      rw [List.length_drop]
      omega
theorem numsB_sub {k : Nat} {bs r : List ByteArray} {zs : List Int} (h : numsB k bs = some (zs, r)) : ∀ x ∈ r, x ∈ bs := by
  unfold numsB at h
  split at h
  · cases h
  · cases hm : mapN (bs.take k) with
    | none => rw [hm] at h; cases h
    | some ys =>
      rw [hm] at h
      obtain ⟨_, rfl⟩ : ys = zs ∧ bs.drop k = r := by simpa using h
      exact fun x hx => List.mem_of_mem_drop hx
theorem map_some' {α β : Type} {o : Option α} {g : α → β} {y : β} (h : o.map g = some y) : ∃ x, o = some x ∧ g x = y := by
  cases o with
  | none => cases h
  | some x => exact ⟨x, rfl, by simpa using h⟩
theorem segW_rest {bs r : List ByteArray} {s : Sg} (h : segW bs = some (s, r)) : r.length < bs.length ∧ ∀ x ∈ r, x ∈ bs := by
  cases bs with
  | nil => cases h
  | cons b q =>
    have key : (r.length ≤ q.length ∧ ∀ x ∈ r, x ∈ q) → r.length < (b :: q).length ∧ ∀ x ∈ r, x ∈ b :: q := fun k => ⟨by simp; omega, fun x hx => by simp [k.2 x hx]⟩
    have num : ∀ (k : Nat) (g : List Int × List ByteArray → Sg), (numsB k q).map (fun p => (g p, p.2)) = some (s, r) → r.length ≤ q.length ∧ ∀ x ∈ r, x ∈ q := fun k g e => by
      obtain ⟨⟨zs, r'⟩, e1, e2⟩ := map_some' e
      obtain ⟨_, rfl⟩ : g (zs, r') = s ∧ r' = r := by simpa using e2
      exact ⟨numsB_less e1, numsB_sub e1⟩
    rw [segW] at h
    split at h
    · exact key (num 2 _ h)
    · split at h
      · exact key (num 2 _ h)
      · split at h
        · exact key (num 5 _ h)
        · split at h
          · obtain ⟨_, rfl⟩ : _ = s ∧ q = r := by simpa using h
            exact key ⟨Nat.le_refl _, fun x hx => hx⟩
          · cases h
/-- All segments of words. -/
def parseF : Nat → List ByteArray → Option (List Sg)
  | _, [] => some []
  | 0, _ :: _ => none
  | f + 1, b :: r => match segW (b :: r) with
    | none => none
    | some (s, q) => (parseF f q).map (s :: ·)
def parseB (s : ByteArray) : Option (List Sg) := if s.size = 0 then some [] else parseF (wordsB s).length (wordsB s)
def pE (s : ByteArray) : Int := match parseB s with
  | none => 5
  | some ss => chk ss
def pS (s : ByteArray) : List Sg := match parseB s with
  | none => []
  | some ss => if chk ss = 0 then ss else []
theorem parseF_step {f : Nat} {bs q : List ByteArray} {s : Sg} (hf : bs.length ≤ f + 1) (h : segW bs = some (s, q)) : parseF (f + 1) bs = (parseF f q).map (s :: ·) := by
  cases bs with
  | nil => cases h
  | cons b r => rw [parseF, h]
theorem parseF_bad {f : Nat} {bs : List ByteArray} (hb : bs ≠ []) (h : segW bs = none) : parseF f bs = none := by
  cases bs with
  | nil => exact absurd rfl hb
  | cons b r =>
    cases f with
    | zero => rfl
    | succ f => rw [parseF, h]

theorem wo_len : ∀ (l : List UInt8), ∀ p ∈ wo l, p.length ≤ l.length
  | [], p, hp => by simp [wo] at hp; subst hp; simp
  | b :: r, p, hp => by
    have ih := wo_len r
    by_cases hb : b = 32
    · subst hb
      rw [wo_space] at hp
      rcases List.mem_cons.1 hp with rfl | hp
      · simp
      · have := ih p hp; simp; omega
    · cases hw : wo r with
      | nil => exact absurd hw (wo_ne r)
      | cons h t =>
        rw [wo_cons hb hw] at hp
        rw [hw] at ih
        rcases List.mem_cons.1 hp with rfl | hp
        · have := ih h (by simp); simp; omega
        · have := ih p (by simp [hp]); simp; omega
theorem wordsB_size (s : ByteArray) (h : s.size ≤ 4294967295) : ∀ x ∈ wordsB s, x.size ≤ 4294967295 := fun x hx => by
  have h1 := wo_len s.data.toList x.data.toList (by rw [← wordsB_data]; exact List.mem_map.2 ⟨x, hx, rfl⟩)
  have e1 : x.data.toList.length = x.size := Array.length_toList
  have e2 : s.data.toList.length = s.size := Array.length_toList
  omega
theorem chk_take (ss : List Sg) : chk (ss.take 1001) = chk ss := by
  rcases Nat.lt_or_ge 1000 ss.length with h | h
  · unfold chk
    rw [if_pos h, if_pos (by rw [List.length_take]; omega)]
  · rw [List.take_of_length_le (by omega)]
theorem split_any (s : ByteArray) (w : World) (hs : s.size ≤ 40000) (he : Env w) :
    Calls Tryd.prog 15 #[.string s, .string ⟨#[32]⟩] w fun e w' => e = .returned (.slice (some ⟨w.heap.size, 0, none⟩) (wordsB s).length (wordsB s).length) ∧ Strs w'.heap.size w' (some ⟨w.heap.size, 0, none⟩) (wordsB s) ∧ Below w.heap.size w w' := by
  obtain ⟨m, hm⟩ := he.m
  refine (Tryd.strings_Split s ⟨#[32]⟩ m w (by omega) hm (by decide)).mono fun e w' ⟨he', hw⟩ => ?_
  have hb : Below w.heap.size w w' := by rw [hw]; exact below_alloc (Below.refl _ w) _
  have hV : Var w' w.heap.size ((wordsB s).map Value.string).toArray 9 := by rw [hw]; exact Var.new w _ _ _ rfl
  rw [← wordsB_length] at he'
  refine ⟨he', fun hn => ⟨w.heap.size, 0, rfl, hV.lt, fun i b hi => ?_⟩, hb⟩
  rw [Nat.zero_add, hV.cell]
  simp [hi]
theorem own_nil' (w : World) (B : Nat) : w.ownsRow B 38 6 (.slice none 0 0) 0 (flat []) := ⟨rfl, .inl ⟨rfl, rfl⟩⟩
def tk (ss : List Sg) : List Sg := ss.take 1001
def lenV : Value → Nat
  | .slice _ n _ => n
  | _ => 0

set_option maxHeartbeats 6400000 in
set_option maxRecDepth 100000 in
theorem parse_some (s : ByteArray) (w : World) (hs0 : 0 < s.size) (hs : s.size ≤ 40000) (he : Env w) :
    Calls Tryd.prog 8 #[.string s] w fun e w' => (∃ A n c, e = .returned (.tuple #[.slice A n c, .int .i64 (pE s)]) ∧ n = (pS s).length ∧ Segs w' A (pS s)) ∧ Below w.heap.size w w' := by
  have HE := hid he
  have HSP := hid (split_any s w hs he)
  have HWZ := hid (wordsB_size s (by omega))
  have HPB := hid (show parseB s = parseF (wordsB s).length (wordsB s) by unfold parseB; rw [if_neg (by omega)])
  have hWL : (wordsB s).length ≤ 40001 := by rw [wordsB_length]; have := Lib.countB_le ⟨#[32]⟩ (by decide) _ s (Nat.le_refl _); omega
  have hne : (s.toList == []) = false := by
    rw [toList_data]
    refine beq_eq_false_iff_ne.2 fun k => ?_
    have : s.data.toList.length = s.size := Array.length_toList
    rw [k] at this
    simp at this
    omega
  clear he hs hs0
  go_enter Tryd.func8, Tryd.ntmps8
  go_wp2_with fail
  (with_reducible refine HSP.out.mono ?_); rintro e w1 ⟨rfl, hst, hb⟩
  have HST := hid hst
  have HB := hid hb
  have HO := hid (own_nil' w1 w1.heap.size)
  have HB1 := hid (Below.refl w1.heap.size w1)
  clear hst hb HSP
  go_wp2_with fail
  go_loopw [4, 5] (fun s4 s5 wr => ∃ (acc : List Sg) (bs : List ByteArray) (A : Option Addr) (n c f : Nat), s5 = .slice A n c ∧ n = bs.length ∧ n ≤ c ∧ c ≤ maxLen ∧ bs.length ≤ f ∧ f ≤ 40001 ∧ acc.length + f ≤ 40001 ∧ Hid (Strs w1.heap.size wr A bs) ∧ Hid (∀ x ∈ bs, x.size ≤ 4294967295) ∧ Hid (parseB s = (parseF f bs).map (acc ++ ·)) ∧ Hid (wr.ownsRow w1.heap.size 38 6 s4 (tk acc).length (flat (tk acc))) ∧ Hid (Below w1.heap.size w1 wr)) (fun _ s5 _ => lenV s5)
  case atStart => exact ⟨[], wordsB s, _, _, _, _, rfl, rfl, Nat.le_refl _, by unfold maxLen; omega, Nat.le_refl _, hWL, by simp; exact hWL, HST, HWZ, hid (by rw [HPB.out]; cases parseF (wordsB s).length (wordsB s) <;> simp), HO, HB1⟩
  case round =>
    obtain ⟨acc, bs, A, n, c, f, rfl, rfl, hnc, hcm, hf, hf2, haf, HS, HL, HP, HO, HBJ⟩ := hrel
    obtain ⟨Ap, cp, rfl, hpl, hsp⟩ := own_segs HO.out
    have HSP := hid hsp
    have hpt : (tk acc).length ≤ 1001 := by unfold tk; rw [List.length_take]; omega
    clear hsp hpl
    by_cases hbs : bs = []
    · subst hbs
      rw [List.length_nil] at hnc ⊢
      have HPA := hid (show parseB s = some acc by rw [HP.out]; cases f <;> simp [parseF])
      have HC := fun w' (h : Segs w' Ap (tk acc)) => hid (check_any Ap (tk acc) _ cp w' rfl fun _ => h)
      rw [show chk (tk acc) = chk acc from chk_take acc] at HC
      have HBW := hid (HB.out.trans (HBJ.out.mono HB.out.size))
      by_cases hk : chk acc = 0
      · have HE1 := hid (show pE s = 0 by unfold pE; rw [HPA.out]; exact hk)
        have HE2 := hid (show pS s = tk acc by unfold pS; rw [HPA.out]; simp only; rw [if_pos hk]; exact (List.take_of_length_le (by have := chk_le hk; omega)).symm)
        rw [hk] at HC
        clear hk HP HPA
        go_wp2_with fail
        (with_reducible refine (HC _ HSP.out).out.mono ?_); rintro e w2 ⟨rfl, hb⟩
        have HSX := hid (HSP.out.next hb)
        have HBX := hid (below_next HBW.out hb)
        clear hb
        go_wp2_with fail
        go_ret2
        rw [HE1.out, HE2.out]
        exact ⟨⟨_, _, _, rfl, rfl, HSX.out⟩, HBX.out⟩
      · have HE1 := hid (show pE s = chk acc by unfold pE; rw [HPA.out])
        have HE2 := hid (show pS s = [] by unfold pS; rw [HPA.out]; simp only; rw [if_neg hk])
        have hkn : (chk acc != 0) = true := by simp [hk]
        clear hk HP HPA
        generalize chk acc = r at HC HE1 hkn
        go_wp2_with fail
        (with_reducible refine (HC _ HSP.out).out.mono ?_); rintro e w2 ⟨rfl, hb⟩
        have HBX := hid (below_next HBW.out hb)
        clear hb
        go_wp2_with fail
        go_ret2
        rw [HE1.out, HE2.out]
        exact ⟨⟨_, _, _, rfl, rfl, Segs.nil _ _⟩, HBX.out⟩
    · have hn0 : 0 < bs.length := List.length_pos_iff.2 hbs
      have HEJ := hid (HE.out.next (HB.out.trans (HBJ.out.mono HB.out.size)))
      have HQ := hid (parseSeg_any A bs bs.length c w1.heap.size wr HBJ.out.size rfl (by omega) ⟨hnc, hcm⟩ HS.out HL.out HEJ.out)
      go_wp2_with fail
      (with_reducible refine HQ.out.mono ?_); rintro e w2 ⟨hr, hb⟩
      have HB2 := hid (HBJ.out.trans (hb.mono HBJ.out.size))
      have HO2 := hid (own_next HO.out hb)
      have H2L := hid (Nat.le_trans HBJ.out.size hb.size)
      clear hb HQ HSP
      unfold PSeg at hr
      cases hq : segW bs with
      | none =>
        rw [hq] at hr
        obtain ⟨g, A2, n2, c2, rfl⟩ := hr
        have HPN := hid (show parseB s = none by rw [HP.out, parseF_bad hbs hq]; rfl)
        have HE1 := hid (show pE s = 5 by unfold pE; rw [HPN.out])
        have HE2 := hid (show pS s = [] by unfold pS; rw [HPN.out])
        have HBX := hid (below_alloc (HB.out.trans (HB2.out.mono HB.out.size)) (.cells (cel g) 38))
        clear hq HP HPN
        go_wp2_with fail
        go_ret2
        rw [HE1.out, HE2.out]
        exact ⟨⟨_, _, _, rfl, rfl, Segs.nil _ _⟩, HBX.out⟩
      | some p =>
        obtain ⟨g, r⟩ := p
        rw [hq] at hr
        obtain ⟨A2, n2, c2, rfl, rfl, hc2, hc2m, hs2⟩ := hr
        obtain ⟨hlt, hsub⟩ := segW_rest hq
        obtain ⟨f', rfl⟩ : ∃ f', f = f' + 1 := ⟨f - 1, by have := List.length_pos_iff.2 hbs; omega⟩
        have HP2 := hid (show parseB s = (parseF f' r).map ((acc ++ [g]) ++ ·) by
          rw [HP.out, parseF_step hf hq]
          cases parseF f' r <;> simp)
        have HL2 := hid (fun x hx => HL.out x (hsub x hx))
        have HS2 := hid (hs2.below ((Below.refl _ w2).alloc H2L.out (.cells (cel g) 38)))
        have HV6 := hid (Var.new w2 (cel g) 38 _ rfl)
        have HO3 := hid (HO2.out.alloc (.cells (cel g) 38))
        have HB3 := hid (HB2.out.alloc H2L.out (.cells (cel g) 38))
        have H3L := hid (show w1.heap.size ≤ (w2.alloc (.cells (cel g) 38)).heap.size by have := H2L.out; simp; omega)
        clear hq HP HL HS hs2 hsub
        go_upto_region 7 with fail
        generalize w2.alloc _ = w3 at HS2 HV6 HO3 HB3 H3L ⊢
        obtain ⟨q0, q1, q2, q3, q4, q5, qf⟩ := HV6.out.read6
        by_cases hac : acc.length ≤ 1000
        · have ht : tk acc = acc := List.take_of_length_le (by omega)
          have ht2 : tk (acc ++ [g]) = acc ++ [g] := List.take_of_length_le (by simp; omega)
          rw [ht] at HO3 ⊢
          have hle : (acc.length : Int) ≤ 1000 := by omega
          go_wp2_with (at_builtin; refine wpList_append_sg (xs := acc) (g := g) rfl _ _ rfl H3L.out rfl rfl HO3.out (by omega) ?_)
          intro v6 w6 hown hb
          have HO6 := hid (show w6.ownsRow w1.heap.size 38 6 v6 (tk (acc ++ [g])).length (flat (tk (acc ++ [g]))) by rw [ht2]; simpa using hown)
          have HB6 := hid (HB3.out.trans hb)
          have HS6 := hid (HS2.out.below hb)
          clear hown hb q0 q1 q2 q3 q4 q5 qf
          go_wp2_with fail
          go_roundw
          case rel => exact ⟨acc ++ [g], r, A2, r.length, c2, f', rfl, rfl, hc2, hc2m, by omega, by omega, by simp; omega, HS6, HL2, HP2, HO6, HB6⟩
          case measure => simp [lenV]; omega
        · have ht2 : tk (acc ++ [g]) = tk acc := List.take_append_of_le_length (by omega)
          have hle : ¬ ((tk acc).length : Int) ≤ 1000 := by unfold tk; rw [List.length_take]; omega
          have HO6 := hid (show w3.ownsRow w1.heap.size 38 6 (.slice Ap (tk acc).length cp) (tk (acc ++ [g])).length (flat (tk (acc ++ [g]))) by rw [ht2]; exact HO3.out)
          clear q0 q1 q2 q3 q4 q5 qf
          generalize (tk acc).length = k at HO6 hle hpt ⊢
          go_wp2_with fail
          go_roundw
          case rel => exact ⟨acc ++ [g], r, A2, r.length, c2, f', rfl, rfl, hc2, hc2m, by omega, by omega, by simp; omega, HS2, HL2, HP2, HO6, HB3⟩
          case measure => simp [lenV]; omega

theorem parse_any (s : ByteArray) (w : World) (hs : s.size ≤ 40000) (he : Env w) :
    Calls Tryd.prog 8 #[.string s] w fun e w' => (∃ A n c, e = .returned (.tuple #[.slice A n c, .int .i64 (pE s)]) ∧ n = (pS s).length ∧ Segs w' A (pS s)) ∧ Below w.heap.size w w' := by
  rcases Nat.eq_zero_or_pos s.size with h0 | h0
  · have hs' : s = ⟨#[]⟩ := by
      obtain ⟨⟨l⟩⟩ := s
      have : l.length = 0 := h0
      rw [List.eq_nil_of_length_eq_zero this]
    subst hs'
    rw [show pE ⟨#[]⟩ = 0 from rfl, show pS ⟨#[]⟩ = [] from rfl]
    go_enter Tryd.func8, Tryd.ntmps8
    go_wp2_with fail
    go_ret2
    exact ⟨⟨_, _, _, rfl, rfl, Segs.nil _ _⟩, Below.refl _ _⟩
  · exact parse_some s w h0 hs he

end Go.Proofs.YtijkoaggcmgjiabDoor
