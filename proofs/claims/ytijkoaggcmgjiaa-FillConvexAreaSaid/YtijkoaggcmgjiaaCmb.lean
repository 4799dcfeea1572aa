/- combine of package region: the walk over the edges of both regions. -/
import Derived.Test.YtijkoaggcmgjiaaAppE
import Derived.Deep.DeepCutAuto
namespace Go.Proofs.Ytijkoaggcmgjiaa
open Go Go.RowKit
set_option linter.unusedVariables false
set_option linter.unusedSimpArgs false

theorem enters_inside : Enters Try.prog 102 := enters_of Try.func102 (by kernel_rfl) rfl
/-- The error of two regions. -/
def pairE (xs ys : List Rn) : Int := if chk xs = 0 then chk ys else chk xs
/-- The region of the chosen cells in a new row, and no error; or none, and the error. -/
def GivesOp (keep : Bool → Bool → Bool) (xs ys : List Rn) (w : World) (e : Ending) (w' : World) : Prop := ∃ v res, e = .returned (.tuple #[v, .int .i64 (pairE xs ys)]) ∧ OwnR w' w.heap.size v res ∧ Below w.heap.size w w' ∧
  (pairE xs ys = 0 → IsOp keep xs ys res) ∧ (pairE xs ys ≠ 0 → res = [])
theorem chk_len {ss : List Rn} (h : chk ss = 0) : ss.length ≤ 1000000000 := by
  have key : ∀ k, k < 2 * ss.length → ek ss 0 + k ≤ ek ss k := by
    intro k
    induction k with
    | zero => intro _; simp
    | succ k ih =>
      intro hk
      have h1 := ih (by omega)
      have h2 := ek_step h (k := k) (by omega)
      omega
  rcases Nat.eq_zero_or_pos ss.length with h0 | h0
  · omega
  · have h1 := key (2 * ss.length - 1) (by omega)
    have h2 := ek_top h (k := 0) (by omega)
    have h3 := ek_top h (k := 2 * ss.length - 1) (by omega)
    omega
/-- What is passed of a walk. -/
def passedAt (w : World) (b : Nat) : Nat := match w.cell? ⟨b, 1, none⟩ with
  | some (.int _ z) => z.toNat
  | _ => 0
theorem Var.passed {w : World} {b n c p : Nat} {A : Option Addr} {t : TypeId} (h : Var w b (wkc A n c p) t) : passedAt w b = p := by
  unfold passedAt
  rw [h.cell 1]
  rfl
section
variable {P : Program} {ρ : Operand → Value} {dst : Option Tmp} {ty : TypeId} {pos : String} {af : Array Edge} {x y f : Operand} {w : World} {gd : Option (Nat × Bool)}
theorem run_callF {g : FuncId} {ts : Array TypeId} (hf : ρ f = .func (.func g) #[] #[]) (he : Enters P g) :
    (execOp ρ { dst := dst, op := .call { callee := .value f, args := #[x, y], argTypes := ts }, type := ty, pos := pos, after := af, guard := gd }).run P w = .ok (.enter g #[ρ x, ρ y]) w := by
  have e : ∀ args w, (callFunc g args).run P w = .ok (.enter g args) w := he
  go_simp
theorem run_neB {b c : Bool} (hx : ρ x = .bool b) (hy : ρ y = .bool c) :
    (execOp ρ { dst := dst, op := .binOp .neq 4 x y 4, type := ty, pos := pos, after := af, guard := gd }).run Try.prog w = .ok (.value (.bool (b != c))) w := by
  cases b <;> cases c <;> go_simp
end

/-- What stands at the head of the loop. -/
structure LS (keep : Bool → Bool → Bool) (xs ys : List Rn) (A A' : Option Addr) (n c m c' : Nat) (w W wr : World) (b0 b1 pa pb : Nat) (kept : Bool) (v : Value) (res : List Rn) : Prop where
  v0 : Var wr b0 (wkc A n c pa) 138
  v1 : Var wr b1 (wkc A' m c' pb) 138
  ci : CI keep xs ys pa pb kept res
  o : OwnR wr W.heap.size v res
  b : Below w.heap.size w wr
  B : W.heap.size ≤ wr.heap.size

/-- What stands when the next edge is known: it lies in block b4. -/
structure CS (xs ys : List Rn) (A A' : Option Addr) (n c m c' : Nat) (w W wx : World) (b0 b1 b4 pa pb : Nat) (v : Value) (res : List Rn) : Prop where
  v0 : Var wx b0 (wkc A n c pa) 138
  v1 : Var wx b1 (wkc A' m c' pb) 138
  q : Var wx b4 (pcel (nxt xs ys pa pb)) 40
  o : OwnR wx W.heap.size v res
  b : Below w.heap.size w wx
  B : W.heap.size ≤ wx.heap.size

def LR (keep : Bool → Bool → Bool) (xs ys : List Rn) (A A' : Option Addr) (n c m c' : Nat) (w W : World) (b0 b1 : Nat) (s10 s11 : Value) (wr : World) : Prop :=
  ∃ (pa pb : Nat) (kept : Bool) (v : Value) (res : List Rn), s10 = v ∧ s11 = .bool kept ∧ Hid (LS keep xs ys A A' n c m c' w W wr b0 b1 pa pb kept v res)

theorem combine_bad1 (K : FuncId) (keep : Bool → Bool → Bool) (A A' : Option Addr) (xs ys : List Rn) (n c m c' : Nat) (w : World) (hn : n = xs.length) (hnl : n ≤ maxLen) (hx : Runs w A xs) (he : chk xs ≠ 0) :
    Calls Try.prog 59 #[.slice A n c, .slice A' m c', .func (.func K) #[] #[]] w (GivesOp keep xs ys w) := by
  have HX := hid hx
  have HN := hid hn
  clear hx hn
  have he' : (chk xs != 0) = true := by simpa using he
  have HE := hid he
  clear he
  go_enter Try.func59, Try.ntmps59
  go_wp2_with fail
  (with_reducible refine (check_any A xs n c _ HN.out hnl HX.out).mono ?_); rintro e w1 ⟨rfl, hb⟩
  have HB := hid hb
  clear hb
  go_wp2_with fail
  go_ret2
  exact ⟨_, [], by rw [show pairE xs ys = chk xs from if_neg HE.out]; rfl, OwnR.nil _ _, HB.out, fun h => absurd ((if_neg HE.out : pairE xs ys = _).symm.trans h) HE.out, fun _ => rfl⟩
theorem combine_bad2 (K : FuncId) (keep : Bool → Bool → Bool) (A A' : Option Addr) (xs ys : List Rn) (n c m c' : Nat) (w : World) (hn : n = xs.length) (hm : m = ys.length) (hnl : n ≤ maxLen) (hml : m ≤ maxLen) (hx : Runs w A xs) (hy : Runs w A' ys) (he0 : chk xs = 0) (he : chk ys ≠ 0) :
    Calls Try.prog 59 #[.slice A n c, .slice A' m c', .func (.func K) #[] #[]] w (GivesOp keep xs ys w) := by
  have HX := hid hx
  have HY := hid hy
  have HN := hid hn
  have HM := hid hm
  clear hx hn hy hm
  have he' : (chk ys != 0) = true := by simpa using he
  have HE := hid he
  have HE0 := hid he0
  clear he he0
  go_enter Try.func59, Try.ntmps59
  go_wp2_with fail
  (with_reducible refine (check_any A xs n c _ HN.out hnl HX.out).mono ?_); rintro e w1 ⟨rfl, hb⟩
  rw [HE0.out]
  have HB := hid hb
  have HY1 := hid (HY.out.next hb)
  clear hb HY
  go_wp2_with fail
  (with_reducible refine (check_any A' ys m c' _ HM.out hml HY1.out).mono ?_); rintro e w2 ⟨rfl, hb⟩
  have HB1 := hid (below_next HB.out hb)
  clear hb HB
  go_wp2_with fail
  go_ret2
  exact ⟨_, [], by rw [show pairE xs ys = chk ys from if_pos HE0.out]; rfl, OwnR.nil _ _, HB1.out, fun h => absurd ((if_pos HE0.out : pairE xs ys = _).symm.trans h) HE.out, fun _ => rfl⟩

set_option maxHeartbeats 8000000 in
set_option maxRecDepth 100000 in
theorem combine_good (K : FuncId) (keep : Bool → Bool → Bool) (hK : Enters Try.prog K) (hk : ∀ a b w, Calls Try.prog K #[.bool a, .bool b] w fun e w' => e = .returned (.bool (keep a b)) ∧ w = w') (h0 : keep false false = false)
    (A A' : Option Addr) (xs ys : List Rn) (n c m c' : Nat) (w : World) (hn : n = xs.length) (hm : m = ys.length) (hx : Runs w A xs) (hy : Runs w A' ys) (hex : chk xs = 0) (hey : chk ys = 0) :
    Calls Try.prog 59 #[.slice A n c, .slice A' m c', .func (.func K) #[] #[]] w (GivesOp keep xs ys w) := by
  have hnb : n ≤ 1000000000 := by rw [hn]; exact chk_len hex
  have hmb : m ≤ 1000000000 := by rw [hm]; exact chk_len hey
  have hnl : n ≤ maxLen := by unfold maxLen; omega
  have hml : m ≤ maxLen := by unfold maxLen; omega
  have HX := hid hx
  have HY := hid hy
  have HN := hid hn
  have HM := hid hm
  have HEX := hid hex
  have HEY := hid hey
  have HK := hid hk
  have H0 := hid h0
  have HKE := hid hK
  have HX0 := HX
  have HY0 := HY
  clear hx hn hy hm hex hey hk h0 hK
  go_enter Try.func59, Try.ntmps59
  go_wp2_with fail
  (with_reducible refine (check_any A xs n c _ HN.out hnl HX.out).mono ?_); rintro e w1 ⟨rfl, hb⟩
  rw [HEX.out]
  have HB := hid hb
  have HY1 := hid (HY.out.next hb)
  have HX1 := hid (HX.out.next hb)
  clear hb HY HX
  go_wp2_with fail
  (with_reducible refine (check_any A' ys m c' _ HM.out hml HY1.out).mono ?_); rintro e w2 ⟨rfl, hb⟩
  rw [HEY.out]
  have HB1 := hid (below_next HB.out hb)
  have HY2 := hid (HY1.out.next hb)
  have HX2 := hid (HX1.out.next hb)
  clear hb HB HY1 HX1
  go_wp2_with fail
  obtain ⟨W, hW⟩ : ∃ W, W = (w2.alloc (.cells #[.slice A n c, .int .i64 0] 138)).alloc (.cells #[.slice A' m c', .int .i64 0] 138) := ⟨_, rfl⟩
  have HV0 := hid (show Var W w2.heap.size (wkc A n c 0) 138 by rw [hW]; exact (Var.new w2 _ _ _ rfl).alloc _)
  have HV1 := hid (show Var W (w2.heap.size + 1) (wkc A' m c' 0) 138 by rw [hW]; exact Var.new _ _ _ _ (by simp))
  have HBW := hid (show Below w.heap.size w W by rw [hW]; exact below_alloc (below_alloc HB1.out _) _)
  rw [← hW]
  have hwb0 : w.heap.size ≤ w2.heap.size := HB1.out.size
  clear HX2 HY2 HB1 hW
  have hb01 : w2.heap.size < w2.heap.size + 1 := Nat.lt_succ_self _
  generalize w2.heap.size + 1 = b1 at HV1 hb01 ⊢
  generalize w2.heap.size = b0 at HV0 hb01 hwb0 ⊢
  have hbl0 := HV0.out.lt
  have hwb0 : w.heap.size ≤ b0 := hwb0
  have hbl1 := HV1.out.lt
  have HL0 : Hid (LS keep xs ys A A' n c m c' w W W b0 b1 0 0 false (.slice none 0 0) []) := hid ⟨HV0.out, HV1.out, CI.start H0.out HEX.out HEY.out, OwnR.nil _ _, HBW.out, Nat.le_refl _⟩
  have HBW0 := HBW
  clear HV0 HV1 HBW
  go_loopw [10, 11] (fun s10 s11 wr => LR keep xs ys A A' n c m c' w W b0 b1 s10 s11 wr) (fun _ _ wr => 2 * n + 2 * m - (passedAt wr b0 + passedAt wr b1))
  case atStart => exact ⟨0, 0, false, _, [], rfl, rfl, HL0⟩
  case round =>
    obtain ⟨pa, pb, kept, v, res, hv, rfl, HL⟩ := hrel
    have hv' := hv.symm
    clear hv
    subst hv'
    clear HL0
    have hple := HL.out.ci.le
    have hpa0 : pa ≤ 2 * n := by rw [HN.out]; exact hple.1
    have hpb0 : pb ≤ 2 * m := by rw [HM.out]; exact hple.2.1
    clear hple
    go_upto_region 10 with fail
    go_cut [35] from 30 to 35 (fun s35 wx => s35 = .bool (decide (¬ (pa = 2 * n ∧ pb = 2 * m))) ∧ Hid (Below wr.heap.size wr wx))
    case first =>
      by_cases h1 : pa = 2 * n
      · go_wp2_with fail
        (with_reducible refine (over_any b0 A n c pa _ HL.out.v0 hnb).mono ?_); rintro e w3 ⟨rfl, hb3⟩
        rw [decide_eq_true h1]
        have HB3 := hid hb3
        have HV3 := hid (HL.out.v1.next hb3)
        have H1 := hid h1
        clear hb3 h1
        go_wp2_with fail
        (with_reducible refine (over_any b1 A' m c' pb _ HV3.out hmb).mono ?_); rintro e w4 ⟨rfl, hb4⟩
        have HB4 := hid (below_next HB3.out hb4)
        have HE4 : Hid (decide (¬ (pa = 2 * n ∧ pb = 2 * m)) = !decide (pb = 2 * m)) := hid (by rw [← decide_not]; exact decide_eq_decide.2 ⟨fun k e => k ⟨H1.out, e⟩, fun k e => k e.2⟩)
        clear hb4 HB3 HV3
        go_wp2_with fail
        go_meet
        exact ⟨by rw [HE4.out], HB4⟩
      · go_wp2_with fail
        (with_reducible refine (over_any b0 A n c pa _ HL.out.v0 hnb).mono ?_); rintro e w3 ⟨rfl, hb3⟩
        rw [decide_eq_false h1]
        have HB3 := hid hb3
        have HE4 : Hid (decide (¬ (pa = 2 * n ∧ pb = 2 * m)) = true) := hid (decide_eq_true (fun k => h1 k.1))
        clear hb3 h1
        go_wp2_with fail
        go_meet
        exact ⟨by rw [HE4.out], HB3⟩
    case rest =>
      obtain ⟨rfl, HB3⟩ := hcut
      by_cases hdone : pa = 2 * n ∧ pb = 2 * m
      · rw [decide_eq_false (fun k => k hdone)]
        have HD := hid (HL.out.ci.done H0.out HEX.out HEY.out (hdone.1.trans (by rw [HN.out])) (hdone.2.trans (by rw [HM.out])))
        have HO := hid ((HL.out.o.next HB3.out).mono HBW0.out.size)
        have HBE := hid (below_next HL.out.b HB3.out)
        have HPE : Hid (pairE xs ys = 0) := hid ((if_pos HEX.out).trans HEY.out)
        clear hdone HB3 HL
        go_wp2_with fail
        go_ret2
        exact ⟨v, res, by rw [HPE.out]; rfl, HO.out, HBE.out, fun _ => HD.out, fun k => absurd HPE.out k⟩
      · rw [decide_eq_true hdone]
        have HND := hid hdone
        clear hdone
        have HV0 := hid (HL.out.v0.next HB3.out)
        have HV1 := hid (HL.out.v1.next HB3.out)
        have HO := hid (HL.out.o.next HB3.out)
        have HB := hid (below_next HL.out.b HB3.out)
        have HX1 := hid (HX0.out.next HB.out)
        have hB1 : W.heap.size ≤ _ := Nat.le_trans HL.out.B HB3.out.size
        go_wp2_with fail
        (with_reducible refine (next_any b0 A xs n c pa _ HV0.out hnb HN.out hpa0 HX1.out).mono ?_); rintro e w4 ⟨rfl, hb4⟩
        have HA4 := hid (below_next HB.out hb4)
        have HV40 := hid (HV0.out.next hb4)
        have HV41 := hid (HV1.out.next hb4)
        have HO4 := hid (HO.out.next hb4)
        have hB4 : W.heap.size ≤ w4.heap.size := Nat.le_trans hB1 hb4.size
        clear hb4 HX1 HV0 HV1 HO HB hB1 HB3
        go_upto_region 12 with fail
        obtain ⟨w5, hw5⟩ : ∃ w5, w5 = w4.alloc (.cells (pcel (edge xs pa)) 40) := ⟨_, rfl⟩
        have HP5 := hid (show Var w5 w4.heap.size (pcel (edge xs pa)) 40 by rw [hw5]; exact Var.new _ _ _ _ rfl)
        have hb5 : Below w4.heap.size w4 w5 := by rw [hw5]; exact (Below.refl _ _).alloc (Nat.le_refl _) _
        have HA5 := hid (below_next HA4.out hb5)
        have HV50 := hid (HV40.out.next hb5)
        have HV51 := hid (HV41.out.next hb5)
        have HO5 := hid (HO4.out.next hb5)
        have hb4g : W.heap.size ≤ w4.heap.size := hB4
        have hwb4 : w.heap.size ≤ w4.heap.size := HA4.out.size
        have hB5 : W.heap.size ≤ w5.heap.size := Nat.le_trans hB4 hb5.size
        have HY5 := hid (HY0.out.next HA5.out)
        have HN4 : Hid (∀ k, v.ownBlock = some k → k < w4.heap.size) := hid (fun k hk => (HO4.out.ge k hk).2)
        have hb04 : b0 < w4.heap.size := HV40.out.lt
        have hb14 : b1 < w4.heap.size := HV41.out.lt
        rw [← hw5]
        clear hw5 hb5 HA4 HV40 HV41 HO4 hB4
        generalize w4.heap.size = b4 at HP5 hb4g hwb4 HN4 hb04 hb14 ⊢
        go_wp2_with fail
        (with_reducible refine (next_any b1 A' ys m c' pb _ HV51.out hmb HM.out hpb0 HY5.out).mono ?_); rintro e w6 ⟨rfl, hb6⟩
        have HA6 := hid (below_next HA5.out hb6)
        have HV60 := hid (HV50.out.next hb6)
        have HV61 := hid (HV51.out.next hb6)
        have HO6 := hid (HO5.out.next hb6)
        have HP6 := hid (HP5.out.next hb6)
        have hB6 : W.heap.size ≤ w6.heap.size := Nat.le_trans hB5 hb6.size
        clear hb6 HA5 HV50 HV51 HO5 HP5 hB5 HY5
        go_upto_region 13 with fail
        obtain ⟨w7, hw7⟩ : ∃ w7, w7 = w6.alloc (.cells (pcel (edge ys pb)) 40) := ⟨_, rfl⟩
        have hb7 : Below w6.heap.size w6 w7 := by rw [hw7]; exact (Below.refl _ _).alloc (Nat.le_refl _) _
        have HQ7 := hid (show Var w7 w6.heap.size (pcel (edge ys pb)) 40 by rw [hw7]; exact Var.new _ _ _ _ rfl)
        have HP7 := hid (HP6.out.next hb7)
        have HA7 := hid (below_next HA6.out hb7)
        have HV70 := hid (HV60.out.next hb7)
        have HV71 := hid (HV61.out.next hb7)
        have HO7 := hid (HO6.out.next hb7)
        have hb46 : b4 < w6.heap.size := HP6.out.lt
        have hB7 : W.heap.size ≤ w7.heap.size := Nat.le_trans hB6 hb7.size
        rw [← hw7]
        clear hw7 hb7 HA6 HV60 HV61 HO6 HP6 hB6
        generalize w6.heap.size = b5 at HQ7 hb46 ⊢
        obtain ⟨p0, p1, pf⟩ := HP7.out.read2
        obtain ⟨q0, q1, qf⟩ := HQ7.out.read2
        go_wp2_with fail
        (with_reducible refine (compare_any (edge ys pb) (edge xs pa) _).mono ?_); rintro e w8 ⟨rfl, hb8⟩
        have HA8 := hid (below_next HA7.out hb8)
        have HV80 := hid (HV70.out.next hb8)
        have HV81 := hid (HV71.out.next hb8)
        have HO8 := hid (HO7.out.next hb8)
        have HP8 := hid (HP7.out.next hb8)
        have HQ8 := hid (HQ7.out.next hb8)
        have hB8 : W.heap.size ≤ w8.heap.size := Nat.le_trans hB7 hb8.size
        clear hb8 HA7 HV70 HV71 HO7 HP7 HQ7 hB7 p0 p1 pf q0 q1 qf
        go_upto_if 41 with fail
        go_cut [] from 42 to 42 (fun wx => Hid (CS xs ys A A' n c m c' w W wx b0 b1 b4 pa pb v res))
        case first =>
          by_cases hc : cmpP (edge ys pb) (edge xs pa) < 0
          · have hcd : decide (cmpP (edge ys pb) (edge xs pa) < 0) = true := decide_eq_true hc
            have HQN : Hid (nxt xs ys pa pb = edge ys pb) := hid (if_pos hc)
            obtain ⟨p0, p1, pf⟩ := HP8.out.read2
            obtain ⟨q0, q1, qf⟩ := HQ8.out.read2
            clear hcd
            go_wp2_with fail
            go_meet
            refine hid ⟨(HV80.out.far (p := ⟨b4, 0, none⟩) (by show b0 ≠ b4; omega) _).far (p := ⟨b4, 1, none⟩) (by show b0 ≠ b4; omega) _, (HV81.out.far (p := ⟨b4, 0, none⟩) (by show b1 ≠ b4; omega) _).far (p := ⟨b4, 1, none⟩) (by show b1 ≠ b4; omega) _, ?_, ?_, ?_, ?_⟩
            · rw [HQN.out]; exact ((HP8.out.set (i := 0) _).set (i := 1) _)
            · exact (HO8.out.far HN4.out _).far HN4.out _
            · exact (HA8.out.setCell (p := ⟨b4, 0, none⟩) hwb4 _).setCell (p := ⟨b4, 1, none⟩) hwb4 _
            · simpa [World.setCell] using hB8
          · have hcd : decide (cmpP (edge ys pb) (edge xs pa) < 0) = false := decide_eq_false hc
            have HQN : Hid (nxt xs ys pa pb = edge xs pa) := hid (if_neg hc)
            clear hcd
            go_wp2_with fail
            go_meet
            exact hid ⟨HV80.out, HV81.out, by rw [HQN.out]; exact HP8.out, HO8.out, HA8.out, hB8⟩
        case rest =>
          clear HV80 HV81 HO8 HP8 HQ8 hB8 HA8
          obtain ⟨q, pa', pb', eq, ea, eb, hmore, hpa', hpb', hk1, hk2, hk3⟩ := HL.out.ci.step H0.out HEX.out HEY.out (fun k => HND.out ⟨k.1.trans (by rw [HN.out]), k.2.trans (by rw [HM.out])⟩)
          have HV0 := hid hcut.out.v0
          have HV1 := hid hcut.out.v1
          have HQ := hid hcut.out.q
          have HO := hid hcut.out.o
          have HB := hid hcut.out.b
          have hB := hcut.out.B
          rw [← eq] at HQ
          have HRL := hid HL.out.ci.le
          have HL1 := hid (show passedAt wr b0 + passedAt wr b1 = pa + pb by rw [HL.out.v0.passed, HL.out.v1.passed])
          have HK1 := hid hk1
          have HK2 := hid hk2
          have HK3 := hid hk3
          have HMO := hid hmore
          rw [← HN.out] at hpa'
          rw [← HM.out] at hpb'
          subst ea eb
          clear hcut hk1 hk2 hk3 hmore eq HL HND
          obtain ⟨q0, q1, qf⟩ := HQ.out.read2
          go_wp2_with fail
          (with_reducible refine (pass_any b0 A xs n c pa q _ HV0.out hnb HN.out hpa0 (HX0.out.next HB.out)).mono ?_); rintro e w9 ⟨⟨vv, rfl⟩, hv0, hg⟩
          have HV90 := hid hv0
          have HV91 := hid (HV1.out.keep (hg.block b1 HV1.out.lt (by simp; omega)))
          have HQ9 := hid (HQ.out.keep (hg.block b4 HQ.out.lt (by simp; omega)))
          have HO9 := hid (HO.out.keep (fun k hk => hg.block k (HO.out.ge k hk).2 (by have := (HO.out.ge k hk).1; simp; omega)))
          have HB9 := hid (HB.out.grown hg HB.out.size (fun k hk => by simp at hk; omega))
          have hB9 := Nat.le_trans hB hg.size
          clear hv0 hg HV0 HV1 HQ HO HB hB q0 q1 qf
          obtain ⟨q0, q1, qf⟩ := HQ9.out.read2
          go_wp2_with fail
          (with_reducible refine (pass_any b1 A' ys m c' pb q _ HV91.out hmb HM.out hpb0 (HY0.out.next HB9.out)).mono ?_); rintro e w10 ⟨⟨vv, rfl⟩, hv1, hg⟩
          have HV1 := hid hv1
          have HV0 := hid (HV90.out.keep (hg.block b0 HV90.out.lt (by simp; omega)))
          have HQ := hid (HQ9.out.keep (hg.block b4 HQ9.out.lt (by simp; omega)))
          have HO := hid (HO9.out.keep (fun k hk => hg.block k (HO9.out.ge k hk).2 (by have := (HO9.out.ge k hk).1; simp; omega)))
          have HB := hid (HB9.out.grown hg HB9.out.size (fun k hk => by simp at hk; omega))
          have hB := Nat.le_trans hB9 hg.size
          clear hv1 hg HV90 HV91 HQ9 HO9 HB9 hB9 q0 q1 qf
          go_upto_region 17 with fail
          rename_i Kn hKn
          refine wp_region_lit ?_
          refine sq_start (n := 60) rfl fun a0 hs0 => ?_
          have ha0 := ((((((((((((((((((((((((((((((hs0.pin 0 (v := .slice A n c) rfl).pin 1 (v := .slice A' m c') rfl).pin 2 (v := .func (.func K) #[] #[]) rfl).pin 3 (v := undef) rfl).pin 4 (v := undef) rfl).pin 5 (v := undef) rfl).pin 6 (v := .slice none 0 0) rfl).pin 7 (v := .int .i64 0) rfl).pin 8 (v := .int .i64 0) rfl).pin 9 (v := .int .i64 0) rfl).pin 10 (v := v) rfl).pin 11 (v := .bool kept) rfl).pin 12 (v := .pointer (some (⟨b0, 0, none⟩))) rfl).pin 13 (v := .pointer (some (⟨b1, 0, none⟩))) rfl).pin 14 (v := .pointer (some (⟨b4, 0, none⟩))) rfl).pin 16 (v := .slice A n c) rfl).pin 17 (v := .int .i64 0) rfl).pin 18 (v := .int .i64 0) rfl).pin 19 (v := .bool false) rfl).pin 20 (v := undef) rfl).pin 21 (v := .slice A' m c') rfl).pin 22 (v := .int .i64 0) rfl).pin 23 (v := .int .i64 0) rfl).pin 24 (v := .bool false) rfl).pin 25 (v := undef) rfl).pin 26 (v := .slice A n c) rfl).pin 27 (v := .agg #[.slice A n c, .int .i64 0]) rfl).pin 28 (v := .slice A' m c') rfl).pin 29 (v := .agg #[.slice A' m c', .int .i64 0]) rfl).pin 59 (v := undef) rfl)
          clear hs0
          generalize (fun i => Array.getD _ i undef) = g0 at ha0
          refine sq_val (v := .func (.func K) #[] #[]) ha0 rfl (rfl) fun a1 ha1 => ?_
          refine sq_call (G := fun v w1 => v = .bool (odd (adv xs pa q)) ∧ w10 = w1) ha1 rfl (run_call1 rfl enters_inside) ((inside_any b0 A n c _ _ HV0.out (by omega)).mono fun e w1 k => ⟨_, k.1, rfl, k.2⟩) ?_
          rintro v48 w48 a2 ⟨rfl, rfl⟩ ha2
          refine sq_call (G := fun v w1 => v = .bool (odd (adv ys pb q)) ∧ w10 = w1) ha2 rfl (run_call1 rfl enters_inside) ((inside_any b1 A' m c' _ _ HV1.out (by omega)).mono fun e w1 k => ⟨_, k.1, rfl, k.2⟩) ?_
          rintro v49 w49 a3 ⟨rfl, rfl⟩ ha3
          refine sq_call (G := fun v w1 => v = .bool (keep (odd (adv xs pa q)) (odd (adv ys pb q))) ∧ w10 = w1) ha3 rfl (run_callF rfl HKE.out) ((HK.out _ _ _).mono fun e w1 k => ⟨_, k.1, rfl, k.2⟩) ?_
          rintro v50 w50 a4 ⟨rfl, rfl⟩ ha4
          refine sq_val (v := .bool kept) ha4 rfl (rfl) fun a5 ha5 => ?_
          refine sq_val (v := .bool (keep (odd (adv xs pa q)) (odd (adv ys pb q)) != kept)) ha5 rfl (run_neB rfl rfl) fun a6 ha6 => ?_
          refine wpList_nil ?_
          refine hKn _ _ ?_
          obtain ⟨g9, hg9, k0, k1, k2, k3, k4, k5, k6, k7, k8, k9, k10, k11, k12, k13, k14, k16, k17, k18, k19, k20, k21, k22, k23, k24, k25, k26, k27, k28, k29, k59, k52⟩ : ∃ g9, Is a6 60 g9 ∧ g9 0 = .slice A n c ∧ g9 1 = .slice A' m c' ∧ g9 2 = .func (.func K) #[] #[] ∧ g9 3 = undef ∧ g9 4 = undef ∧ g9 5 = undef ∧ g9 6 = .slice none 0 0 ∧ g9 7 = .int .i64 0 ∧ g9 8 = .int .i64 0 ∧ g9 9 = .int .i64 0 ∧ g9 10 = v ∧ g9 11 = .bool kept ∧ g9 12 = .pointer (some (⟨b0, 0, none⟩)) ∧ g9 13 = .pointer (some (⟨b1, 0, none⟩)) ∧ g9 14 = .pointer (some (⟨b4, 0, none⟩)) ∧ g9 16 = .slice A n c ∧ g9 17 = .int .i64 0 ∧ g9 18 = .int .i64 0 ∧ g9 19 = .bool false ∧ g9 20 = undef ∧ g9 21 = .slice A' m c' ∧ g9 22 = .int .i64 0 ∧ g9 23 = .int .i64 0 ∧ g9 24 = .bool false ∧ g9 25 = undef ∧ g9 26 = .slice A n c ∧ g9 27 = .agg #[.slice A n c, .int .i64 0] ∧ g9 28 = .slice A' m c' ∧ g9 29 = .agg #[.slice A' m c', .int .i64 0] ∧ g9 59 = undef ∧ g9 52 = .bool (keep (odd (adv xs pa q)) (odd (adv ys pb q)) != kept) := ⟨_, ha6, rfl, rfl, rfl, rfl, rfl, rfl, rfl, rfl, rfl, rfl, rfl, rfl, rfl, rfl, rfl, rfl, rfl, rfl, rfl, rfl, rfl, rfl, rfl, rfl, rfl, rfl, rfl, rfl, rfl, rfl, rfl⟩
          have hw := hg9.whole
          rw [show ((List.range 60).map g9).toArray = #[g9 0, g9 1, g9 2, g9 3, g9 4, g9 5, g9 6, g9 7, g9 8, g9 9, g9 10, g9 11, g9 12, g9 13, g9 14, g9 15, g9 16, g9 17, g9 18, g9 19, g9 20, g9 21, g9 22, g9 23, g9 24, g9 25, g9 26, g9 27, g9 28, g9 29, g9 30, g9 31, g9 32, g9 33, g9 34, g9 35, g9 36, g9 37, g9 38, g9 39, g9 40, g9 41, g9 42, g9 43, g9 44, g9 45, g9 46, g9 47, g9 48, g9 49, g9 50, g9 51, g9 52, g9 53, g9 54, g9 55, g9 56, g9 57, g9 58, g9 59] from rfl] at hw
          rw [k0, k1, k2, k3, k4, k5, k6, k7, k8, k9, k10, k11, k12, k13, k14, k16, k17, k18, k19, k20, k21, k22, k23, k24, k25, k26, k27, k28, k29, k59, k52] at hw
          subst hw
          clear hg9 k0 k1 k2 k3 k4 k5 k6 k7 k8 k9 k10 k11 k12 k13 k14 k16 k17 k18 k19 k20 k21 k22 k23 k24 k25 k26 k27 k28 k29 k59 k52
          clear ha0 ha1 ha2 ha3 ha4 ha5 ha6 hKn Kn
          have HRES := hid (show res.length ≤ 5000000000 by have := HRL.out; omega)
          by_cases hkk : keep (odd (adv xs pa q)) (odd (adv ys pb q)) = kept
          · rw [show (keep (odd (adv xs pa q)) (odd (adv ys pb q)) != kept) = false by rw [hkk]; simp]
            have HLE := hid (show LS keep xs ys A A' n c m c' w W w10 b0 b1 (adv xs pa q) (adv ys pb q) kept v res from ⟨HV0.out, HV1.out, HK1.out hkk, HO.out, HB.out, hB⟩)
            have HME := hid (show passedAt w10 b0 + passedAt w10 b1 = adv xs pa q + adv ys pb q by rw [HV0.out.passed, HV1.out.passed])
            clear hkk
            go_wp2_with fail
            go_roundw
            case rel => exact ⟨_, _, kept, v, res, rfl, rfl, HLE⟩
            case measure => have h1 := HME.out; have h2 := HL1.out; have h3 := HMO.out; omega
          · rw [show (keep (odd (adv xs pa q)) (odd (adv ys pb q)) != kept) = true by simpa using hkk]
            obtain ⟨q0, q1, qf⟩ := HQ.out.read2
            cases kept with
            | false =>
              have HC := hid (HK2.out hkk rfl)
              clear hkk HK1 HK2 HK3
              go_wp2_with fail
              (with_reducible refine (appE_t v res q W.heap.size _ hB HO.out HRES.out).mono ?_); rintro e w11 ⟨v', rfl, ho, hg⟩
              have HBE := hid (HB.out.grown hg.g HB.out.size (fun k hk => Nat.le_trans HBW0.out.size (HO.out.ge k hk).1))
              have HV0' := hid (hg.var HV0.out (fun e => by have := (HO.out.ge b0 e).1; omega))
              have HV1' := hid (hg.var HV1.out (fun e => by have := (HO.out.ge b1 e).1; omega))
              have HLE := hid (show LS keep xs ys A A' n c m c' w W w11 b0 b1 (adv xs pa q) (adv ys pb q) true v' (res ++ [⟨q.y, q.x, 0⟩]) from ⟨HV0'.out, HV1'.out, HC.out, ho, HBE.out, Nat.le_trans hB hg.size⟩)
              have HME := hid (show passedAt w11 b0 + passedAt w11 b1 = adv xs pa q + adv ys pb q by rw [HV0'.out.passed, HV1'.out.passed])
              clear ho hg
              go_wp2_with fail
              go_roundw
              case rel => exact ⟨_, _, true, v', _, rfl, rfl, HLE⟩
              case measure => have h1 := HME.out; have h2 := HL1.out; have h3 := HMO.out; omega
            | true =>
              have HC := hid (HK3.out hkk rfl)
              clear hkk HK1 HK2 HK3
              go_wp2_with fail
              (with_reducible refine (appE_f v res q W.heap.size _ HO.out HC.out.1 HRES.out).mono ?_); rintro e w11 ⟨v', rfl, ho, hg⟩
              have HBE := hid (HB.out.grown hg.g HB.out.size (fun k hk => Nat.le_trans HBW0.out.size (HO.out.ge k hk).1))
              have HV0' := hid (hg.var HV0.out (fun e => by have := (HO.out.ge b0 e).1; omega))
              have HV1' := hid (hg.var HV1.out (fun e => by have := (HO.out.ge b1 e).1; omega))
              have HLE := hid (show LS keep xs ys A A' n c m c' w W w11 b0 b1 (adv xs pa q) (adv ys pb q) false v' (setEnd res q.x) from ⟨HV0'.out, HV1'.out, HC.out.2, ho, HBE.out, Nat.le_trans hB hg.size⟩)
              have HME := hid (show passedAt w11 b0 + passedAt w11 b1 = adv xs pa q + adv ys pb q by rw [HV0'.out.passed, HV1'.out.passed])
              clear ho hg
              go_wp2_with fail
              go_roundw
              case rel => exact ⟨_, _, false, v', _, rfl, rfl, HLE⟩
              case measure => have h1 := HME.out; have h2 := HL1.out; have h3 := HMO.out; omega

end Go.Proofs.Ytijkoaggcmgjiaa
