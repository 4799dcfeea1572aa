/- The arithmetic of the bounds of rounding: no Go in sight. -/
import Derived.Test.YtdelhelfphblcaaCls
namespace Go.Proofs.Ytdelhelfphblcaa
open Go Go.RowKit
set_option linter.unusedVariables false

theorem rnd_err (x : Int) : ∃ e, 4096 * rnd x 4096 = x + e ∧ -2048 ≤ e ∧ e ≤ 2048 ∧ -2047 ≤ e := by
  refine ⟨4096 * rnd x 4096 - x, by omega, ?_⟩
  unfold rnd
  omega

theorem then_id {oA oC oE px py nA nC nE mA mB mC mD mE mF aX qX qY bX e1 e2 e3 d h1 h2 d' : Int}
    (H1 : 4096 * oA = nA * mA + nC * mB + e1) (H2 : 4096 * oC = nA * mC + nC * mD + e2) (H3 : 4096 * (oE - nE) = nA * mE + nC * mF + e3)
    (H4 : 4096 * aX = oA * px + oC * py + oE + d) (H5 : 4096 * qX = mA * px + mC * py + mE + h1) (H6 : 4096 * qY = mB * px + mD * py + mF + h2)
    (H7 : 4096 * bX = nA * qX + nC * qY + nE + d') :
    16777216 * (aX - bX) = e1 * px + e2 * py + e3 - nA * h1 - nC * h2 + 4096 * (d - d') := by
  obtain rfl : e1 = 4096 * oA - (nA * mA + nC * mB) := by omega
  obtain rfl : e2 = 4096 * oC - (nA * mC + nC * mD) := by omega
  obtain rfl : e3 = 4096 * (oE - nE) - (nA * mE + nC * mF) := by omega
  obtain rfl : d = 4096 * aX - (oA * px + oC * py + oE) := by omega
  obtain rfl : h1 = 4096 * qX - (mA * px + mC * py + mE) := by omega
  obtain rfl : h2 = 4096 * qY - (mB * px + mD * py + mF) := by omega
  obtain rfl : d' = 4096 * bX - (nA * qX + nC * qY + nE) := by omega
  clear H1 H2 H3 H4 H5 H6 H7
  simp only [Int.sub_mul, Int.add_mul, Int.mul_sub, Int.mul_add, Int.mul_assoc, Int.mul_comm, Int.mul_left_comm]
  omega

theorem inv_id {D oA oC oE px py mA mB mC mD mE mF qX qY bX e1 e2 e3 d h1 h2 : Int} (HD : mA * mD - mB * mC = D)
    (H1 : D * oA = 16777216 * mD + e1) (H2 : D * oC = -16777216 * mC + e2) (H3 : D * oE = 4096 * (mC * mF - mD * mE) + e3)
    (H5 : 4096 * qX = mA * px + mC * py + mE + h1) (H6 : 4096 * qY = mB * px + mD * py + mF + h2)
    (H7 : 4096 * bX = oA * qX + oC * qY + oE + d) :
    16777216 * (D * (bX - px)) = D * (oA * h1) + D * (oC * h2) - e1 * h1 - e2 * h2 + 4096 * (e1 * qX + e2 * qY + e3 + D * d) := by
  obtain rfl : e1 = D * oA - 16777216 * mD := by omega
  obtain rfl : e2 = D * oC - -16777216 * mC := by omega
  obtain rfl : e3 = D * oE - 4096 * (mC * mF - mD * mE) := by omega
  obtain rfl : d = 4096 * bX - (oA * qX + oC * qY + oE) := by omega
  obtain rfl : h1 = 4096 * qX - (mA * px + mC * py + mE) := by omega
  obtain rfl : h2 = 4096 * qY - (mB * px + mD * py + mF) := by omega
  subst HD
  clear H1 H2 H3 H5 H6 H7
  rw [show (16777216 : Int) = 4096 * 4096 from rfl]
  generalize (4096 : Int) = k
  simp only [Int.mul_sub, Int.mul_add, Int.mul_neg, Int.mul_comm, Int.mul_left_comm]
  omega

theorem ab_b (x : Int) : -(ab x) ≤ x ∧ x ≤ ab x := by unfold ab; omega
theorem ab_le {x y : Int} (h : -y ≤ x ∧ x ≤ y) : ab x ≤ y := by unfold ab; omega

theorem then_bnd {oA oC oE px py nA nC nE mA mB mC mD mE mF aX qX qY bX : Int}
    (H1 : oA = rnd (nA * mA + nC * mB) 4096) (H2 : oC = rnd (nA * mC + nC * mD) 4096) (H3 : oE = rnd (nA * mE + nC * mF) 4096 + nE)
    (H4 : aX = rnd (oA * px + oC * py + oE) 4096) (H5 : qX = rnd (mA * px + mC * py + mE) 4096) (H6 : qY = rnd (mB * px + mD * py + mF) 4096)
    (H7 : bX = rnd (nA * qX + nC * qY + nE) 4096) : 8192 * ab (aX - bX) ≤ 8193 + ab px + ab py + ab nA + ab nC := by
  obtain ⟨e1, E1, l1⟩ := rnd_err (nA * mA + nC * mB)
  obtain ⟨e2, E2, l2⟩ := rnd_err (nA * mC + nC * mD)
  obtain ⟨e3, E3, l3⟩ := rnd_err (nA * mE + nC * mF)
  obtain ⟨d, E4, l4⟩ := rnd_err (oA * px + oC * py + oE)
  obtain ⟨h1, E5, l5⟩ := rnd_err (mA * px + mC * py + mE)
  obtain ⟨h2, E6, l6⟩ := rnd_err (mB * px + mD * py + mF)
  obtain ⟨d', E7, l7⟩ := rnd_err (nA * qX + nC * qY + nE)
  have K := then_id (H1 ▸ E1) (H2 ▸ E2) (show 4096 * (oE - nE) = nA * mE + nC * mF + e3 by rw [H3]; omega) (H4 ▸ E4) (H5 ▸ E5) (H6 ▸ E6) (H7 ▸ E7)
  have b1 := mulb (x := e1) (X := 2048) (by omega) (ab_b px)
  have b2 := mulb (x := e2) (X := 2048) (by omega) (ab_b py)
  have b3 := mulb (y := h1) (Y := 2048) (ab_b nA) (by omega)
  have b4 := mulb (y := h2) (Y := 2048) (ab_b nC) (by omega)
  have k1 : aX - bX ≤ ab (aX - bX) ∧ -(aX - bX) ≤ ab (aX - bX) ∧ (ab (aX - bX) = aX - bX ∨ ab (aX - bX) = -(aX - bX)) := by unfold ab; omega
  generalize ab (aX - bX) = z at *
  generalize ab px = PX at *
  generalize ab py = PY at *
  generalize ab nA = NA at *
  generalize ab nC = NC at *
  omega

theorem rnd_e (a b : Int) (hb : 1 ≤ b) : ∃ e, b * rnd a b = a + e ∧ -b ≤ 2 * e ∧ 2 * e ≤ b := by
  have e := Int.mul_ediv_add_emod (2 * a + b) (2 * b)
  have r0 := Int.emod_nonneg (2 * a + b) (show 2 * b ≠ 0 by omega)
  have r1 := Int.emod_lt_of_pos (2 * a + b) (show 0 < 2 * b by omega)
  rw [Int.mul_assoc] at e
  refine ⟨b * rnd a b - a, by omega, ?_⟩
  unfold rnd
  omega

theorem qt_e (N D : Int) (h : D ≠ 0) : ∃ e, D * qt N D = N + e ∧ -(ab D) ≤ 2 * e ∧ 2 * e ≤ ab D := by
  by_cases hd : D < 0
  · obtain ⟨e, he, l⟩ := rnd_e (-N) (-D) (by omega)
    refine ⟨-e, ?_, ?_⟩
    · unfold qt
      rw [if_pos hd]
      rw [Int.neg_mul] at he
      omega
    · unfold ab; omega
  · obtain ⟨e, he, l⟩ := rnd_e N D (by omega)
    refine ⟨e, ?_, ?_⟩
    · unfold qt
      rw [if_neg hd]
      exact he
    · unfold ab; omega

theorem inv_bnd {D oA oC oE px py mA mB mC mD mE mF qX qY bX : Int} (HD : mA * mD - mB * mC = D) (h0 : D ≠ 0)
    (H1 : oA = qt (16777216 * mD) D) (H2 : oC = qt (-16777216 * mC) D) (H3 : oE = qt (4096 * (mC * mF - mD * mE)) D)
    (H5 : qX = rnd (mA * px + mC * py + mE) 4096) (H6 : qY = rnd (mB * px + mD * py + mF) 4096) (H7 : bX = rnd (oA * qX + oC * qY + oE) 4096) :
    8192 * ab (bX - px) ≤ 4098 + ab qX + ab qY + ab oA + ab oC := by
  obtain ⟨e1, E1, l1⟩ := qt_e (16777216 * mD) D h0
  obtain ⟨e2, E2, l2⟩ := qt_e (-16777216 * mC) D h0
  obtain ⟨e3, E3, l3⟩ := qt_e (4096 * (mC * mF - mD * mE)) D h0
  obtain ⟨h1, E5, l5⟩ := rnd_err (mA * px + mC * py + mE)
  obtain ⟨h2, E6, l6⟩ := rnd_err (mB * px + mD * py + mF)
  obtain ⟨d, E7, l7⟩ := rnd_err (oA * qX + oC * qY + oE)
  have K := inv_id HD (H1 ▸ E1) (H2 ▸ E2) (H3 ▸ E3) (H5 ▸ E5) (H6 ▸ E6) (H7 ▸ E7)
  have g1 := mulb (ab_b D) (mulb (y := h1) (Y := 2048) (ab_b oA) (by omega))
  have g2 := mulb (ab_b D) (mulb (y := h2) (Y := 2048) (ab_b oC) (by omega))
  have g3 := mulb (x := 2 * e1) (X := ab D) (y := h1) (Y := 2048) (by omega) (by omega)
  have g4 := mulb (x := 2 * e2) (X := ab D) (y := h2) (Y := 2048) (by omega) (by omega)
  have g5 := mulb (x := 2 * e1) (X := ab D) (y := qX) (by omega) (ab_b qX)
  have g6 := mulb (x := 2 * e2) (X := ab D) (y := qY) (by omega) (ab_b qY)
  have g7 := mulb (y := d) (Y := 2048) (ab_b D) (by omega)
  rw [Int.mul_assoc] at g3 g4 g5 g6
  have T1 : 1 ≤ ab D := by unfold ab; omega
  have z1 : ab D * ab (bX - px) = D * (bX - px) ∨ ab D * ab (bX - px) = -(D * (bX - px)) := by
    have u : ab D = D ∨ ab D = -D := by unfold ab; omega
    have v : ab (bX - px) = bX - px ∨ ab (bX - px) = -(bX - px) := by unfold ab; omega
    rcases u with u | u <;> rcases v with v | v <;> rw [u, v]
    · exact .inl rfl
    · exact .inr (Int.mul_neg ..)
    · exact .inr (Int.neg_mul ..)
    · exact .inl (Int.neg_mul_neg ..)
  rw [← Int.mul_assoc (ab D) (ab oA)] at g1
  rw [← Int.mul_assoc (ab D) (ab oC)] at g2
  have F : ab D * (33554432 * ab (bX - px)) ≤ ab D * (4096 * ab oA + 4096 * ab oC + 4096 + 4096 * ab qX + 4096 * ab qY + 4096 + 16777216) := by
    simp only [Int.mul_add, Int.mul_left_comm (ab D)]
    generalize ab D * ab (bX - px) = z at *
    generalize ab D * ab oA = TA at *
    generalize ab D * ab oC = TC at *
    generalize ab D * ab qX = TX at *
    generalize ab D * ab qY = TY at *
    generalize ab D = T at *
    omega
  have := Int.le_of_mul_le_mul_left F (by omega)
  omega

end Go.Proofs.Ytdelhelfphblcaa
