/- Arguments: a slice of numbers; a line. -/
import Derived.Test.YtjflgblplmgjlaaSpn
import Derived.Test.YtjflgblplmgjlaaLns
namespace Go.Proofs.Ytjflgblplmgjlaa
open Go Go.RowKit Go.ChangeShapes Go.WideShapes Go.ChangeAt Go.Deep
set_option linter.unusedVariables false

section
variable {H : Type} {enc : TypeId × Value → H} {P : Program} {w : World} {base : Nat} {spare : Nat → Bool} {held : Bool}
theorem open_ints {r : Reach} {b0 : Nat} {t e : TypeId} {v : Value} {d : DataW H} {p : List MemPlace} (ht : P.underlying t = some (.slice e)) (hk : isI64 P e = true) (hC : P.cellsOf e = 1)
    (hv : Value.okWide P w r b0 t v) (h : DataW.Trod enc P w base spare held t v d p) :
    ∃ (A : Option Addr) (n c : Nat) (zs : List Int), v = .slice A n c ∧ n = zs.length ∧ IntsA w A zs ∧ zs.length ≤ maxLen := by
  obtain ⟨A, n, c, rfl⟩ := okWide_slice ht hv
  obtain ⟨fuel, hf⟩ := h
  rcases open_slice ht hf with ⟨h0, -⟩ | ⟨a, len, cap, m, k, D, Pl, h0, hb, hlc, hcm, hm, -, hx⟩
  · have h0' : Value.slice A n c = .slice none 0 0 := (List.cons.inj h0).1
    cases h0'
    exact ⟨none, 0, 0, [], rfl, rfl, IntsA.nil _ _, Nat.zero_le _⟩
  · have h0' : Value.slice A n c = .slice (some a) len cap := (List.cons.inj h0).1
    cases h0'
    have hle : n ≤ m := by rw [hm]; split <;> omega
    have each : ∀ i, i < n → ∃ z : Int, w.cell? (a.add i) = some (.int .i64 z) := fun i hi => by
      obtain ⟨cs, h1, h2⟩ := hx i (by omega)
      rw [hC, Nat.mul_one] at h1
      obtain ⟨-, hl, h3⟩ := World.cells?_some h1
      match cs, hl with
      | [u], _ =>
        obtain ⟨z, hz, -, -⟩ := DataW.trod_int (isI64_spec hk) h2
        have e0 := h3 0 (by omega)
        obtain rfl : u = .int .i64 z := (List.cons.inj hz).1
        exact ⟨z, e0⟩
    obtain ⟨F, hF⟩ := choose_lt each
    refine ⟨some a, n, c, (List.range n).map F, rfl, by simp, fun hn => ⟨a, rfl, ?_, fun i s hi => ?_⟩, by rw [List.length_map, List.length_range]; omega⟩
    · have h0 : 0 < n := by
        rcases Nat.eq_zero_or_pos n with e | e
        · subst e; exact absurd rfl hn
        · exact e
      have h1 := cell_lt (hF 0 h0)
      rwa [add_block] at h1
    · have hin : i < n := by
        have := (List.getElem?_eq_some_iff.1 hi).1
        simpa using this
      have : F i = s := by simpa [hin] using hi
      rw [← this]
      exact hF i hin
theorem bulk_part {d : DataW H} {l : List (DataW H)} (h : d ∈ l) : Rows.uptoBulk d ≤ Rows.uptoBulkAll l := by
  induction l with
  | nil => cases h
  | cons x r ih =>
    simp only [Rows.uptoBulkAll]
    cases List.mem_cons.1 h with
    | inl e => subst e; omega
    | inr e => have := ih e; omega
theorem bulk_one (d : DataW H) : 1 ≤ Rows.uptoBulk d := by
  cases d with
  | lit l => cases l <;> simp [Rows.uptoBulk]
  | nil => simp [Rows.uptoBulk]
  | ptr d => simp [Rows.uptoBulk]
  | slice elems spare => simp [Rows.uptoBulk]
  | agg parts => simp [Rows.uptoBulk]
  | iface t d => simp [Rows.uptoBulk]
  | map entries => simp [Rows.uptoBulk]
  | held h => simp [Rows.uptoBulk]
theorem bulk_len (l : List (DataW H)) : l.length ≤ Rows.uptoBulkAll l := by
  induction l with
  | nil => simp [Rows.uptoBulkAll]
  | cons x r ih => have := bulk_one x; simp only [Rows.uptoBulkAll, List.length_cons]; omega
/-- A line by value: its points, its mark, and that its bulk bounds their number. -/
theorem open_line {r : Reach} {b0 : Nat} {t tp ep : TypeId} {f0 f1 g0 g1 : Field} {v : Value} {d : DataW H} {p : List MemPlace} (hs : P.underlying t = some (.struct #[f0, f1])) (hone : oneCellFields P #[f0, f1] = true)
    (hf0 : f0.type = tp) (hf1 : P.underlying f1.type = some .bool)
    (hpt : P.underlying tp = some (.slice ep)) (hps : P.underlying ep = some (.struct #[g0, g1])) (hpone : oneCellFields P #[g0, g1] = true) (hpC : P.cellsOf ep = 2) (hpk : (#[g0, g1].all fun f => isI64 P f.type) = true)
    (hC : P.cellsOf t = 2) (hv : Value.okWide P w r b0 t v) (h : DataW.Trod enc P w base spare held t v d p) :
    ∃ (A : Option Addr) (n c : Nat) (ps : List P2) (cl : Bool), v = .agg #[.slice A n c, .bool cl] ∧ n = ps.length ∧ Pts w A ps ∧ (n ≤ c ∧ c ≤ maxLen) ∧ n ≤ Rows.uptoBulk d := by
  obtain ⟨cs, rfl, hsz⟩ := okWide_struct hs hv
  obtain ⟨fuel, hf⟩ := h
  have hf' : DataW.trod enc P w base spare held fuel t cs.toList = some (d, p) := hf
  obtain ⟨y0, y1, q, hx, hl, k0, k1⟩ := trod_struct2 hs hf'
  rw [hC] at hl
  obtain ⟨o0, z0⟩ := hone_of hone 0 f0 rfl
  obtain ⟨o1, z1⟩ := hone_of hone 1 f1 rfl
  rw [o0, z0, hf0] at k0
  rw [o1, z1] at k1
  obtain ⟨u0, u1, hu⟩ : ∃ u0 u1, cs.toList = [u0, u1] := by
    match hq : cs.toList, hl with
    | [a, b], _ => exact ⟨a, b, rfl⟩
  rw [hu] at k0 k1
  have k0' : DataW.trod enc P w base spare held q tp [u0] = some y0 := k0
  have k1' : DataW.trod enc P w base spare held q f1.type [u1] = some y1 := k1
  obtain ⟨b, hb1, -⟩ := DataW.trod_bool hf1 k1'
  have hcs : cs = #[u0, u1] := by cases cs; simp_all
  have hb2 : u1 = .bool b := by cases hb1; rfl
  have hd : d = .agg [y0.1, y1.1] := congrArg Prod.fst hx
  rcases open_slice hpt k0' with ⟨h0, -⟩ | ⟨a', len', cap', m', k', D', Pl', h0, hb', hlc', hcm', hm', hy0, hx'⟩
  · have hu0 : u0 = .slice none 0 0 := (List.cons.inj h0).1
    exact ⟨none, 0, 0, [], b, by rw [hcs, hu0, hb2], rfl, Pts.nil _ _, ⟨Nat.le_refl _, Nat.zero_le _⟩, Nat.zero_le _⟩
  · have hu0 : u0 = .slice (some a') len' cap' := (List.cons.inj h0).1
    have hle' : len' ≤ m' := by rw [hm']; split <;> omega
    have each : ∀ i, i < len' → ∃ s : P2, PtAt w (a'.add (i * 2)) s := fun i hi => by
      obtain ⟨cs, h1, h2⟩ := hx' i (by omega)
      rw [hpC] at h1
      obtain ⟨zs, hl, rfl⟩ := open_cells hps hpone hpC hpk h2
      obtain ⟨-, -, h3⟩ := World.cells?_some h1
      match zs, hl with
      | [z0, z1], _ =>
        refine ⟨⟨z0, z1⟩, ptAt_of fun j hj => ?_⟩
        rw [h3 j hj]
        match j, hj with
        | 0, _ => rfl
        | 1, _ => rfl
    obtain ⟨F, hF⟩ := choose_lt each
    refine ⟨some a', len', cap', (List.range len').map F, b, by rw [hcs, hu0, hb2], by simp, fun hn => ⟨a', rfl, ?_, fun i s hi => ?_⟩, ⟨hlc', hcm'⟩, ?_⟩
    · have h0 : 0 < len' := by
        rcases Nat.eq_zero_or_pos len' with e | e
        · subst e; exact absurd rfl hn
        · exact e
      have h1 := cell_lt (hF 0 h0).c0
      rwa [add_block] at h1
    · have hin : i < len' := by
        have := (List.getElem?_eq_some_iff.1 hi).1
        simpa using this
      have : F i = s := by simpa [hin] using hi
      rw [← this]
      exact hF i hin
    · have h1 : y0.1 = .slice ((List.range len').map D') ((List.range (m' - len')).map fun j => D' (len' + j)) := congrArg Prod.fst hy0
      have h2 := bulk_part (d := y0.1) (l := [y0.1, y1.1]) (by simp)
      have h3 : len' ≤ Rows.uptoBulk y0.1 := by
        rw [h1]
        have := bulk_len ((List.range len').map D')
        rw [List.length_map, List.length_range] at this
        simp only [Rows.uptoBulk]
        omega
      rw [hd]
      simp only [Rows.uptoBulk]
      omega
end
end Go.Proofs.Ytjflgblplmgjlaa
