/- Arguments: a slice of numbers; a line. -/
import Derived.Test.YtjflgblplmgjlaaSpn
import Derived.Test.YtjflgblplmgjlaaLns
namespace Go.Proofs.Ytjflgblplmgjlaa
open Go Go.RowKit Go.ChangeShapes Go.WideShapes Go.ChangeAt Go.Deep
set_option linter.unusedVariables false

section
variable {H : Type} {enc : TypeId × Value → H} {P : Program} {w : World} {base : Nat} {spare : Nat → Bool} {held : Bool}
theorem open_ints {r : Reach} {b0 : Nat} {t e : TypeId} {v : Value} {d : DataW H} {p : List MemPlace} (ht : P.underlying t = some (.slice e)) (hk : isI64 P e = true) (hC : P.cellsOf e = 1)
    (hv : Value.okWide P w r b0 t v) (h : DataW.Trod enc P w base spare held t v d p) :
    ∃ (A : Option Addr) (n c : Nat) (zs : List Int), v = .slice A n c ∧ n = zs.length ∧ IntsA w A zs ∧ zs.length ≤ maxLen := by
  obtain ⟨A, n, c, rfl⟩ := okWide_slice ht hv
  obtain ⟨fuel, hf⟩ := h
  rcases open_slice ht hf with ⟨h0, -⟩ | ⟨a, len, cap, m, k, D, Pl, h0, hb, hlc, hcm, hm, -, hx⟩
  · have h0' : Value.slice A n c = .slice none 0 0 := (List.cons.inj h0).1
    cases h0'
    exact ⟨none, 0, 0, [], rfl, rfl, IntsA.nil _ _, Nat.zero_le _⟩
  · have h0' : Value.slice A n c = .slice (some a) len cap := (List.cons.inj h0).1
    cases h0'
    have hle : n ≤ m := by rw [hm]; split <;> omega
    have each : ∀ i, i < n → ∃ z : Int, w.cell? (a.add i) = some (.int .i64 z) := fun i hi => by
      obtain ⟨cs, h1, h2⟩ := hx i (by omega)
      rw [hC, Nat.mul_one] at h1
      obtain ⟨-, hl, h3⟩ := World.cells?_some h1
      match cs, hl with
      | [u], _ =>
        obtain ⟨z, hz, -, -⟩ := DataW.trod_int (isI64_spec hk) h2
        have e0 := h3 0 (by omega)
        obtain rfl : u = .int .i64 z := (List.cons.inj hz).1
        exact ⟨z, e0⟩
    obtain ⟨F, hF⟩ := choose_lt each
    refine ⟨some a, n, c, (List.range n).map F, rfl, by simp, fun hn => ⟨a, rfl, ?_, fun i s hi => ?_⟩, by rw [List.length_map, List.length_range]; omega⟩
    · have h0 : 0 < n := by
        rcases Nat.eq_zero_or_pos n with e | e
        · subst e; exact absurd rfl hn
        · exact e
      have h1 := cell_lt (hF 0 h0)
      rwa [add_block] at h1
    · have hin : i < n := by
        have := (List.getElem?_eq_some_iff.1 hi).1
        simpa using this
      have : F i = s := by simpa [hin] using hi
      rw [← this]
      exact hF i hin
end
end Go.Proofs.Ytjflgblplmgjlaa
