/- What copy does to a row of pixels; what Paste returns. -/
import Derived.Test.YtdjjijkdalpggaaAlg
import Derived.Test.YtdjjijkdalpggaaCrop
import Derived.Laws.CopyOwn
namespace Go.Proofs.Ytdjjijkdalpggaa
open Go Go.RowKit
set_option linter.unusedVariables false

theorem Only.cell {g : Nat} {w w' : World} (h : Only g w w') : ∀ b o, ¬ b = g → w'.cell? ⟨b, o, none⟩ = w.cell? ⟨b, o, none⟩ := fun b o hb => World.cell?_of_block (h.2.2.2.2 b hb)

theorem step_copy_pix {ops : Array Oper} {o : Oper} {a : Act} {w : World} {K : Act → World → Prop} {Q : Exit → Act → World → Prop} {E : Prop} (hgd : o.guard = none) (d s : Operand)
    (ho : o.op = .call { callee := .builtin .copy, args := #[d, s], argTypes := #[22, 22] })
    (g off dLen dCap g' off' sLen sCap : Nat) (hd : a.eval d = .slice (some ⟨g, off, none⟩) dLen dCap) (hs : a.eval s = .slice (some ⟨g', off', none⟩) sLen sCap)
    (B n c m : Nat) (f f' : Nat → Int) (hown : Own w B g n c f) (hpx : Px w g' off' m f') (hm : m = Nat.min sLen dLen) (hfit : off + m ≤ n)
    (h : ∀ w', Own w' B g n c (fun i => if off ≤ i ∧ i < off + m then f' (i - off) else f i) → Only g w w' → K (a.put o.dst (goInt m)) w') :
    if Region.wanted o (yielded ops a.tmps) = true then Oper.wp Try.prog o a w K Q else E := by
  have hw : Region.wanted o (yielded ops a.tmps) = true := by simp [Region.wanted, hgd]
  rw [if_pos hw]
  rcases hown.2 with ⟨h', _⟩ | ⟨g1, cap, cur, h', hB, hg, hnc, hcm, hsz, htake⟩
  · cases h'
  · have eg : g1 = g := by injection h' with h1 _ _; injection h1 with h1; injection h1 with h1; exact h1.symm
    have ec : cap = c := by injection h' with _ _ h1; exact h1.symm
    subst eg ec
    have hlen : (pixs f' m).length = m := pixs_length f' m
    have hu : Try.prog.underlying 22 = some (.slice 5) := Try.underlying22
    have hi : (Try.prog.info? 5).map (·.size) = some 1 := by
      obtain ⟨i0, hi, hz0, hz1, hz2⟩ := info_parts info5
      rw [hi]; simp [hz1]
    have hrun := run_copy_row (P := Try.prog) w 22 22 o.type 5 g1 off dLen dCap ⟨g', off', none⟩ sLen sCap cur 5 (pixs f' m) hu hi hg (by rw [hlen]; exact hm) (pixs_px hpx) (by rw [hlen, hsz]; omega) (pixs_one f' m)
    rw [hlen] at hrun
    unfold Oper.wp
    simp [execOp, ho, resolve, invoke, builtin, hd, hs, hrun, Result.andThen]
    refine h _ ?_ ⟨rfl, rfl, rfl, by simp [World.setRow], fun k hk => setRow_other w g1 k _ hk⟩
    have hcl : cur.toList.length = cap := by simp [hsz]
    refine ⟨pixs_length _ _ |>.trans (Nat.mul_one _).symm, .inr ⟨g1, cap, _, rfl, hB, setRow_heap w g1 cur _ 5 _ hg, hnc, hcm, ?_, ?_⟩⟩
    · simp [hlen, hsz]; omega
    · rw [Nat.mul_one] at htake ⊢
      refine List.ext_getElem? fun i => ?_
      by_cases hi : i < n
      · have hcur : cur.toList[i]? = some (.int .u8 (f i)) := by
          have := pixs_at f n i hi
          rw [← htake, List.getElem?_take, if_pos hi] at this
          exact this
        rw [pixs_at _ _ _ hi, List.getElem?_take, if_pos hi]
        by_cases h1 : i < off
        · rw [List.getElem?_append_left (by simp [hsz]; omega), List.getElem?_take, if_pos h1, hcur, if_neg (by omega)]
        · rw [List.getElem?_append_right (by simp; omega)]
          have hl : (cur.toList.take off).length = off := by simp [hsz]; omega
          rw [hl]
          by_cases h2 : i < off + m
          · rw [List.getElem?_append_left (by rw [hlen]; omega), pixs_at _ _ _ (by omega), if_pos (by omega)]
          · rw [List.getElem?_append_right (by rw [hlen]; omega), hlen, List.getElem?_drop, show off + m + (i - off - m) = i from by omega, hcur, if_neg (by omega)]
      · rw [List.getElem?_eq_none (by simp; omega), List.getElem?_eq_none (by rw [pixs_length]; omega)]

set_option maxHeartbeats 1000000 in
theorem paste_range (W H PW PH : Nat) (x y : Int) (g n c gp np cp : Nat) (w : World) (hW : 1 ≤ W ∧ W ≤ 1024) (hH : 1 ≤ H ∧ H ≤ 1024) (hn : n = W * H) (hPW : 1 ≤ PW ∧ PW ≤ 1024) (hPH : 1 ≤ PH ∧ PH ≤ 1024) (hnp : np = PW * PH)
    (h : btwB x (-1024) 1024 = false ∨ btwB x (-1024) 1024 = true ∧ btwB y (-1024) 1024 = false) :
    Calls Try.prog 19 #[grid W H (.slice (some ⟨g, 0, none⟩) n c), .int .i64 x, .int .i64 y, grid PW PH (.slice (some ⟨gp, 0, none⟩) np cp)] w (NoGrid 3 w) := by
  have hck : ∀ w, Calls Try.prog 25 #[grid W H (.slice (some ⟨g, 0, none⟩) n c)] w fun e w' => e = .returned (.int .i64 0) ∧ Below w.heap.size w w' := fun w => check_ok W H _ n c w (by omega) (by omega) (by rw [hn, Int.natCast_mul])
  have hckp : ∀ w, Calls Try.prog 25 #[grid PW PH (.slice (some ⟨gp, 0, none⟩) np cp)] w fun e w' => e = .returned (.int .i64 0) ∧ Below w.heap.size w w' := fun w => check_ok PW PH _ np cp w (by omega) (by omega) (by rw [hnp, Int.natCast_mul])
  have HCK := Lib.hid hck
  have HCP := Lib.hid hckp
  clear hn hck hnp hckp
  rcases h with h1 | ⟨h1, h2⟩
  all_goals
    go_enter Try.func19, Try.ntmps19
    go_wp2_with fail
    (with_reducible refine (HCK.out _).mono ?_); rintro e w1 ⟨rfl, hb1⟩
    obtain ⟨hc1, hf1⟩ := bcell hb1
    go_wp2_with fail
    (with_reducible refine (HCP.out _).mono ?_); rintro e w2 ⟨rfl, hb2⟩
    obtain ⟨hc2, hf2⟩ := bcell (hb1.trans (hb2.mono hb1.size))
    have HBW := hid (below_next (below_next (by repeat first | exact Below.refl _ _ | apply Below.drew | apply below_alloc : Below w.heap.size w _) hb1) hb2)
    clear hb1 hb2 hc1 hf1
    go_wp2_with (go_at_call 43; (with_reducible refine (offset_any _ _).mono ?_); rintro e w' ⟨rfl, rfl⟩)
    refine bodyPost_ret (v := .tuple #[grid 0 0 (.slice none 0 0), .int .i64 3]) (by simp [results, Try.results19, go_sem, *]) rfl ⟨rfl, ?_⟩
    exact ((HBW.out.setCell (p := ⟨w.heap.size + 2, 0, none⟩) (Nat.le_add_right _ _) _).setCell (p := ⟨w.heap.size + 2, 1, none⟩) (Nat.le_add_right _ _) _).setCell (p := ⟨w.heap.size + 2, 2, none⟩) (Nat.le_add_right _ _) _

/-- The pixel at (X, Y) after pasting the first r rows. -/
def pasted (x y : Int) (PW PH r : Nat) (P F : Nat → Nat → Int) (X Y : Nat) : Int :=
  if (x ≤ X ∧ (X : Int) < x + PW) ∧ (y ≤ Y ∧ (Y : Int) < y + PH) ∧ Y < r then P ((X : Int) - x).toNat ((Y : Int) - y).toNat else F X Y

theorem paste_step (W PW PH L R r Q Lx : Nat) (x y : Int) (P F : Nat → Nat → Int) (i : Nat) (hW : 1 ≤ W) (hL : x ≤ L ∧ ((L : Int) = 0 ∨ (L : Int) = x)) (hR : (R : Int) ≤ W ∧ (R : Int) ≤ x + PW ∧ ((R : Int) = x + PW ∨ (R : Int) = W))
    (hq : (Q : Int) = r - y) (hlx : (Lx : Int) = L - x) (hyr : y ≤ r ∧ (r : Int) < y + PH) (hLR : L < R) :
    (if r * W + L ≤ i ∧ i < r * W + L + (R - L) then flat PW P (Q * PW + Lx + (i - (r * W + L))) else flat W (pasted x y PW PH r P F) i) = flat W (pasted x y PW PH (r + 1) P F) i := by
  have hx : i % W < W := Nat.mod_lt _ (by omega)
  have hi : i = i / W * W + i % W := by have := Nat.div_add_mod i W; rw [Nat.mul_comm] at this; omega
  have hr := in_row (i / W) r hx
  rw [← hi] at hr
  obtain ⟨X, hX⟩ : ∃ X, X = i % W := ⟨_, rfl⟩
  obtain ⟨Y, hY⟩ : ∃ Y, Y = i / W := ⟨_, rfl⟩
  show (if _ then _ else pasted x y PW PH r P F (i % W) (i / W)) = pasted x y PW PH (r + 1) P F (i % W) (i / W)
  rw [← hX] at hx hi ⊢
  rw [← hY] at hr hi ⊢
  by_cases h : r * W + L ≤ i ∧ i < r * W + L + (R - L)
  · rw [if_pos h]
    have e : Y = r := hr.1 (by omega)
    rw [e] at hi
    have e2 : i - (r * W + L) = X - L := by omega
    rw [e2, show Q * PW + Lx + (X - L) = Q * PW + (Lx + (X - L)) from by omega, flat_at P Q (show Lx + (X - L) < PW by omega)]
    unfold pasted
    rw [if_pos (by omega)]
    exact congr (congrArg P (by omega)) (by omega)
  · rw [if_neg h]
    unfold pasted
    by_cases h2 : (x ≤ X ∧ (X : Int) < x + PW) ∧ (y ≤ Y ∧ (Y : Int) < y + PH) ∧ Y < r
    · rw [if_pos h2, if_pos (by omega)]
    · rw [if_neg h2]
      by_cases h3 : (x ≤ X ∧ (X : Int) < x + PW) ∧ (y ≤ Y ∧ (Y : Int) < y + PH) ∧ Y < r + 1
      · have e : Y = r := by omega
        rw [e] at hi
        omega
      · rw [if_neg h3]

theorem paste_start (x y : Int) (PW PH A : Nat) (P F : Nat → Nat → Int) (hA : (A : Int) = 0 ∨ (A : Int) = y) (X Y : Nat) : pasted x y PW PH A P F X Y = F X Y := by
  unfold pasted; rw [if_neg (by omega)]

theorem paste_end (x y b : Int) (PW PH H r : Nat) (P F : Nat → Nat → Int) (hb : b = y + PH ∨ b = H) (hr : b ≤ r) (X Y : Nat) (hY : Y < H) : pasted x y PW PH r P F X Y = pasted x y PW PH H P F X Y := by
  unfold pasted
  by_cases h2 : (x ≤ X ∧ (X : Int) < x + PW) ∧ (y ≤ Y ∧ (Y : Int) < y + PH) ∧ Y < r
  · rw [if_pos h2, if_pos (by omega)]
  · rw [if_neg h2, if_neg (by omega)]

set_option maxHeartbeats 4000000 in
theorem paste_ok (W H PW PH : Nat) (x y : Int) (g n c gp np cp : Nat) (F P : Nat → Nat → Int) (w : World) (hp : Px w g 0 n (flat W F)) (hpp : Px w gp 0 np (flat PW P)) (hg : g < w.heap.size) (hgp : gp < w.heap.size)
    (hW : 1 ≤ W ∧ W ≤ 1024) (hH : 1 ≤ H ∧ H ≤ 1024) (hn : n = W * H) (hPW : 1 ≤ PW ∧ PW ≤ 1024) (hPH : 1 ≤ PH ∧ PH ≤ 1024) (hnp : np = PW * PH)
    (hx : -1024 ≤ x ∧ x ≤ 1024) (hy : -1024 ≤ y ∧ y ≤ 1024) (hcp : np ≤ cp ∧ cp ≤ 9223372036854775807) :
    Calls Try.prog 19 #[grid W H (.slice (some ⟨g, 0, none⟩) n c), .int .i64 x, .int .i64 y, grid PW PH (.slice (some ⟨gp, 0, none⟩) np cp)] w (OkGrid W H n (flat W (pasted x y PW PH H P F)) w) := by
  have HP := hid hp
  have HPP := hid hpp
  have HN := hid hn
  have HNP := hid hnp
  have hn2 : n ≤ 1048576 := by rw [hn]; exact Nat.le_trans (Nat.mul_le_mul hW.2 hH.2) (by omega)
  have hck : ∀ w, Calls Try.prog 25 #[grid W H (.slice (some ⟨g, 0, none⟩) n c)] w fun e w' => e = .returned (.int .i64 0) ∧ Below w.heap.size w w' := fun w => check_ok W H _ n c w (by omega) (by omega) (by rw [hn, Int.natCast_mul])
  have hckp : ∀ w, Calls Try.prog 25 #[grid PW PH (.slice (some ⟨gp, 0, none⟩) np cp)] w fun e w' => e = .returned (.int .i64 0) ∧ Below w.heap.size w w' := fun w => check_ok PW PH _ np cp w (by omega) (by omega) (by rw [hnp, Int.natCast_mul])
  have HCK := Lib.hid hck
  have HCP := Lib.hid hckp
  have h1 : btwB x (-1024) 1024 = true := btw_yes hx
  have h2 : btwB y (-1024) 1024 = true := btw_yes hy
  clear hn hck hnp hckp hp hpp
  go_enter Try.func19, Try.ntmps19
  go_wp2_with fail
  (with_reducible refine (HCK.out _).mono ?_); rintro e w1 ⟨rfl, hb1⟩
  obtain ⟨hc1, hf1⟩ := bcell hb1
  go_wp2_with fail
  (with_reducible refine (HCP.out _).mono ?_); rintro e w2 ⟨rfl, hb2⟩
  have hb2' := hb1.trans (hb2.mono hb1.size)
  obtain ⟨hc2, hf2⟩ := bcell hb2'
  have hs2 : w.heap.size + 3 ≤ w2.heap.size := by have := hb2'.size; simp at this; exact this
  have HB2 := hid hb2'
  clear hb1 hb2 hc1 hf1 hb2'
  go_wp2_with (go_at_call 43; (with_reducible refine (offset_any _ _).mono ?_); rintro e w' ⟨rfl, rfl⟩)
  (with_reducible refine (clone_any W H g n c (flat W F) _ ?_ ?_ ?_ ?_).mono ?_)
  · exact HP.out.below (below_next (by repeat first | exact Below.refl _ _ | apply Below.drew | apply below_alloc) HB2.out) hg
  · rw [HN.out]; exact Nat.mul_pos (by omega) (by omega)
  · omega
  · omega
  rintro e w3 ⟨g3, c3, rfl, ho, hb3⟩
  have hb3' := HB2.out.trans (hb3.mono HB2.out.size)
  obtain ⟨hc3, hf3⟩ := bcell hb3'
  have HB3 := hid hb3'
  have HO3 := hid (ho.mono hs2)
  have hg3 : w.heap.size + 3 ≤ g3 := HO3.out.lt.1
  have hg3l : g3 < w3.heap.size := HO3.out.lt.2
  have hs3 : w.heap.size + 3 ≤ w3.heap.size := by omega
  clear hb3 hb3' hc2 hf2 HB2 ho h1 h2
  have hl0 : w.heap.size < w3.heap.size := by omega
  have hl1 : w.heap.size + 1 < w3.heap.size := by omega
  have hl2 : w.heap.size + 2 < w3.heap.size := by omega
  go_wp2_with fail
  (with_reducible refine (common_any _ _ _ _ (by omega) (by omega) (by omega) (by omega) (by omega) (by omega)).mono ?_); rintro e w4 ⟨l, rr, hla, hra, rfl, rfl⟩
  go_wp2_with fail
  (with_reducible refine (common_any _ _ _ _ (by omega) (by omega) (by omega) (by omega) (by omega) (by omega)).mono ?_); rintro e w4 ⟨a, b, haa, hba, rfl, rfl⟩
  obtain ⟨u, hu⟩ : ∃ u, u = w3.alloc (.cells #[.int .i64 W, .int .i64 H, .slice (some ⟨g3, 0, none⟩) n c3] 25) := ⟨_, rfl⟩
  have Vr : Var3 u w3.heap.size (.int .i64 W) (.int .i64 H) (.slice (some ⟨g3, 0, none⟩) n c3) := by rw [hu]; exact Var3.new _ _ _ _
  have BU : Below (w.heap.size + 3) (((w.alloc (.cells #[.int .i64 W, .int .i64 H, .slice (some ⟨g, 0, none⟩) n c] 25)).alloc (.cells #[.int .i64 PW, .int .i64 PH, .slice (some ⟨gp, 0, none⟩) np cp] 25)).alloc (.cells #[.int .i64 0, .int .i64 0, .slice none 0 0] 25)) u := by
    have := HB3.out.alloc HB3.out.size (.cells #[.int .i64 W, .int .i64 H, .slice (some ⟨g3, 0, none⟩) n c3] 25)
    rw [hu]; simp only [World.size_alloc] at this; exact this
  have OU : Own u (w.heap.size + 3) g3 n c3 (flat W F) := by rw [hu]; exact HO3.out.alloc _
  rw [← hu]
  obtain ⟨br, hbr⟩ : ∃ br, br = w3.heap.size := ⟨_, rfl⟩
  rw [← hbr] at Vr hg3l hl0 hl1 hl2 hs3 ⊢
  have HVr := hid Vr
  have HBU := hid BU
  have HOU := hid OU
  clear Vr BU OU hc3 hf3 HB3 HO3 hu hbr
  by_cases hlr : l < rr
  · obtain ⟨L, rfl⟩ := Int.eq_ofNat_of_zero_le hla.1
    obtain ⟨R, rfl⟩ := Int.eq_ofNat_of_zero_le (show 0 ≤ rr by omega)
    obtain ⟨A, rfl⟩ := Int.eq_ofNat_of_zero_le haa.1
    go_wp2_with fail
    go_loopw [17] (fun s17 wr => ∃ r : Nat, A ≤ r ∧ s17 = .int .i64 r ∧ Hid (Own wr (w.heap.size + 3) g3 n c3 (flat W (pasted x y PW PH r P F))) ∧ Hid (Var3 wr br (.int .i64 W) (.int .i64 H) (.slice (some ⟨g3, 0, none⟩) n c3)) ∧
      Hid (Below (w.heap.size + 3) (((w.alloc (.cells #[.int .i64 W, .int .i64 H, .slice (some ⟨g, 0, none⟩) n c] 25)).alloc (.cells #[.int .i64 PW, .int .i64 PH, .slice (some ⟨gp, 0, none⟩) np cp] 25)).alloc (.cells #[.int .i64 0, .int .i64 0, .slice none 0 0] 25)) wr)) (fun s17 _ => H - (intOf s17).toNat)
    case atStart => exact ⟨A, Nat.le_refl _, rfl, hid (HOU.out.congr fun i _ => (paste_start x y PW PH A P F haa.2.2 _ _).symm), HVr, HBU⟩
    case round =>
      clear HOU HVr HBU
      obtain ⟨r, hAr, rfl, HO, HV, HB⟩ := hrel
      obtain ⟨v0, v1, v2, vf⟩ := HV.out.read
      have hq0 : wr.cell? ⟨w.heap.size + 1, 0, none⟩ = some (.int .i64 PW) := (HB.out.cell (p := ⟨w.heap.size + 1, 0, none⟩) (by simp)).trans (by simp [go_sem])
      have hq1 : wr.cell? ⟨w.heap.size + 1, 1, none⟩ = some (.int .i64 PH) := (HB.out.cell (p := ⟨w.heap.size + 1, 1, none⟩) (by simp)).trans (by simp [go_sem])
      have hq2 : wr.cell? ⟨w.heap.size + 1, 2, none⟩ = some (.slice (some ⟨gp, 0, none⟩) np cp) := (HB.out.cell (p := ⟨w.heap.size + 1, 2, none⟩) (by simp)).trans (by simp [go_sem])
      have hbrl := HV.out.lt
      by_cases hlt : (r : Int) < b
      · obtain ⟨Q, hQ⟩ : ∃ Q : Nat, (r : Int) - y = Q := ⟨((r : Int) - y).toNat, by omega⟩
        obtain ⟨Lx, hLx⟩ : ∃ Lx : Nat, (L : Int) - x = Lx := ⟨((L : Int) - x).toNat, by omega⟩
        have hQP : Q < PH := by omega
        have hrH : r < H := by omega
        have hrow : r * W + W ≤ n := by rw [HN.out, ← Nat.succ_mul, Nat.mul_comm W H]; exact Nat.mul_le_mul_right W hrH
        have hrowp : Q * PW + PW ≤ np := by rw [HNP.out, ← Nat.succ_mul, Nat.mul_comm PW PH]; exact Nat.mul_le_mul_right PW hQP
        have hcap := HO.out.cap
        have hw1 : IntKind.i64.wrap ((r : Int) - y) = Q := by rw [hQ]; exact IntWalk.i64_in _ (by omega)
        have hw2 : IntKind.i64.wrap ((L : Int) - x) = Lx := by rw [hLx]; exact IntWalk.i64_in _ (by omega)
        have r1 : ∀ w', Calls Try.prog 40 #[grid W H (.slice (some ⟨g3, 0, none⟩) n c3), .int .i64 r] w' fun e w'' => e = .returned (.slice (some ⟨g3, r * W, none⟩) W (c3 - r * W)) ∧ Below w'.heap.size w' w'' := fun w' => row_nat W H r g3 n c3 w' hW (by omega) hrow hcap.1 hcap.2
        have r2 : ∀ w', Calls Try.prog 40 #[grid PW PH (.slice (some ⟨gp, 0, none⟩) np cp), .int .i64 Q] w' fun e w'' => e = .returned (.slice (some ⟨gp, Q * PW, none⟩) PW (cp - Q * PW)) ∧ Below w'.heap.size w' w'' := fun w' => row_nat PW PH Q gp np cp w' hPW (by omega) hrowp hcp.1 hcp.2
        obtain ⟨k1, hk1⟩ : ∃ k1, k1 = c3 - r * W := ⟨_, rfl⟩
        obtain ⟨k2, hk2⟩ : ∃ k2, k2 = cp - Q * PW := ⟨_, rfl⟩
        rw [← hk1] at r1
        rw [← hk2] at r2
        have hk1a : W ≤ k1 := by omega
        have hk1b : k1 ≤ 9223372036854775807 := by omega
        have hk2a : PW ≤ k2 := by omega
        have hk2b : k2 ≤ 9223372036854775807 := by omega
        obtain ⟨o1, ho1⟩ : ∃ o1, o1 = r * W := ⟨_, rfl⟩
        obtain ⟨o2, ho2⟩ : ∃ o2, o2 = Q * PW := ⟨_, rfl⟩
        rw [← ho1] at r1 hrow
        rw [← ho2] at r2 hrowp
        have HR1 := Lib.hid r1
        have HR2 := Lib.hid r2
        have HQ := hid hQ
        have HLx := hid hLx
        have HO1 := hid ho1
        have HO2 := hid ho2
        have z1 : L < k1 := by omega
        have z2 : R ≤ k1 := by omega
        have z3 : Lx < PW := by omega
        have z4 : Lx < k2 := by omega
        have z4n : ¬ k2 = Lx := by omega
        have z5 : R ≤ W := by omega
        have z6 : L < R := by omega
        have z7 : Lx + (R - L) ≤ PW := by omega
        clear hQ hLx r1 r2 hk1 hk2 ho1 ho2
        have hwr0 : w.heap.size + 1 < wr.heap.size := by have := HB.out.size; simp at this; omega
        have hgpr : gp < wr.heap.size := by omega
        have hg3r : g3 < wr.heap.size := HO.out.lt.2
        have hppr := (HPP.out.below (Below.trans (by repeat first | exact Below.refl _ _ | apply Below.drew | apply below_alloc : Below w.heap.size w _) (HB.out.mono (by omega))) hgp).part (o2 + Lx) (R - L) (by omega)
        rw [Nat.zero_add] at hppr
        have HPR := hid hppr
        have hbw := Below.refl wr.heap.size wr
        have HBw := hid hbw
        have hmn : R - L = Nat.min (PW - Lx) (R - L) := by
          exact (Nat.min_eq_right (by omega)).symm
        have HMN := hid hmn
        have hfit : o1 + L + (R - L) ≤ n := by omega
        have e0 : (0 : Int) ≤ (L : Int) := by omega
        have e1 : (L : Int) ≤ (R : Int) := by omega
        have e2 : (R : Int) ≤ (k1 : Int) := by omega
        have e3 : (0 : Int) ≤ (Lx : Int) := by omega
        have e4 : (Lx : Int) ≤ (PW : Int) := by omega
        have e5 : (PW : Int) ≤ (k2 : Int) := by omega
        have ne1 : ¬ br = g3 := by omega
        have ne2 : ¬ w.heap.size + 1 = g3 := by omega
        clear hppr hbw hmn
        go_wp2_with fail
        go_region_held3 (fun w' => w'.cell? ⟨br, 0, none⟩ = some (.int .i64 W) ∧ w'.cell? ⟨br, 1, none⟩ = some (.int .i64 H) ∧ w'.cell? ⟨br, 2, none⟩ = some (.slice (some ⟨g3, 0, none⟩) n c3) ∧
            w'.cell? ⟨w.heap.size + 1, 0, none⟩ = some (.int .i64 PW) ∧ w'.cell? ⟨w.heap.size + 1, 1, none⟩ = some (.int .i64 PH) ∧ w'.cell? ⟨w.heap.size + 1, 2, none⟩ = some (.slice (some ⟨gp, 0, none⟩) np cp)) (first | (simp [go_sem, *]; done) | trivial)
          ((first
            | (go_at_call 40; (first | (with_reducible refine (HR1.out _).mono ?_) | (with_reducible refine (HR2.out _).mono ?_)); (rintro e w5 ⟨rfl, hb5⟩; have HBw := hid (below_next (by first | exact HBw.out | exact HBw.out.drew : Below wr.heap.size wr _) hb5); obtain ⟨hc5, hf5⟩ := bcell HBw.out))
            | (refine step_copy_pix rfl (.tmp 73) (.tmp 82) rfl g3 (o1 + L) (R - L) (k1 - L) gp (o2 + Lx) (PW - Lx) (k2 - Lx) (by rfl) (by rfl) (w.heap.size + 3) n c3 (R - L) _ _ (by exact HO.out.below HBw.out HO.out.lt.2) (by exact HPR.out.below HBw.out hgpr) HMN.out hfit ?_; intro w7 hown7 honly7; have hc7 := Only.cell honly7)))
        have hstep : ∀ i, (if o1 + L ≤ i ∧ i < o1 + L + (R - L) then flat PW P (o2 + Lx + (i - (o1 + L))) else flat W (pasted x y PW PH r P F) i) = flat W (pasted x y PW PH (r + 1) P F) i := by
          intro i
          have := paste_step W PW PH L R r Q Lx x y P F i hW.1 ⟨hla.2.1, hla.2.2⟩ ⟨hra.2.1, hra.1, hra.2.2⟩ HQ.out.symm HLx.out.symm ⟨by omega, by omega⟩ (by omega)
          rw [← HO1.out, ← HO2.out] at this
          exact this
        have ho7 : Own w7 (w.heap.size + 3) g3 n c3 (flat W (pasted x y PW PH (r + 1) P F)) := hown7.congr fun i _ => hstep i
        have HO7 := hid ho7
        have hB7 := Only.below (HB.out.trans (HBw.out.mono (by omega))) honly7 hg3
        have HB7 := hid hB7
        have hV7 := (HV.out.below HBw.out hbrl).keep (honly7.2.2.2.2 br ne1)
        have HV7 := hid hV7
        clear hstep ho7 hown7 honly7 hB7 hV7 hc7 v0 v1 v2 vf hq0 hq1 hq2
        go_wp2
        go_roundw
        case rel => exact ⟨r + 1, by omega, by go_num, HO7, HV7, HB7⟩
        case measure => simp [intOf]; omega
      · have hB8 := bcell (W := ((w.alloc (.cells #[.int .i64 W, .int .i64 H, .slice (some ⟨g, 0, none⟩) n c] 25)).alloc (.cells #[.int .i64 PW, .int .i64 PH, .slice (some ⟨gp, 0, none⟩) np cp] 25)).alloc (.cells #[.int .i64 0, .int .i64 0, .slice none 0 0] 25)) (w1 := wr) (by simp only [World.size_alloc]; exact HB.out)
        obtain ⟨hc8, hf8⟩ := hB8
        have hle : b ≤ (r : Int) := by omega
        go_wp2
        refine bodyPost_ret (v := .tuple #[grid W H (.slice (some ⟨g3, 0, none⟩) n c3), .int .i64 0]) (by simp [results, Try.results19, go_sem, *]) rfl ⟨g3, c3, rfl, ?_, ?_⟩
        · refine ((HO.out.congr fun i hi => ?_).far3 (by omega)).mono (by omega)
          have hi2 : i / W < H := (Nat.div_lt_iff_lt_mul (by omega)).2 (by rw [← Nat.mul_comm W, ← HN.out]; exact hi)
          exact paste_end x y b PW PH H r P F hba.2.2 hle _ _ hi2
        · exact below3' (by repeat first | exact Below.refl _ _ | apply Below.drew | apply below_alloc) HB.out (by omega) (by omega)
  · have hB8 := bcell (W := ((w.alloc (.cells #[.int .i64 W, .int .i64 H, .slice (some ⟨g, 0, none⟩) n c] 25)).alloc (.cells #[.int .i64 PW, .int .i64 PH, .slice (some ⟨gp, 0, none⟩) np cp] 25)).alloc (.cells #[.int .i64 0, .int .i64 0, .slice none 0 0] 25)) (w1 := u) (by simp only [World.size_alloc]; exact HBU.out)
    obtain ⟨hc8, hf8⟩ := hB8
    obtain ⟨v0, v1, v2, vf⟩ := HVr.out.read
    go_wp2
    refine bodyPost_ret (v := .tuple #[grid W H (.slice (some ⟨g3, 0, none⟩) n c3), .int .i64 0]) (by simp [results, Try.results19, go_sem, *]) rfl ⟨g3, c3, rfl, ?_, ?_⟩
    · refine ((HOU.out.congr fun i hi => ?_).far3 (by omega)).mono (by omega)
      have hx2 : i % W < W := Nat.mod_lt _ (by omega)
      show F (i % W) (i / W) = pasted x y PW PH H P F (i % W) (i / W)
      unfold pasted
      rw [if_neg (by omega)]
    · exact below3' (by repeat first | exact Below.refl _ _ | apply Below.drew | apply below_alloc) HBU.out (by omega) (by omega)

end Go.Proofs.Ytdjjijkdalpggaa
