/- Arguments: a slice of runs holds runs, a slice of points points. -/
import Derived.Test.YtjflgblplmgjlaaLeaf
import Derived.ProofKit
import Derived.OpenShut
import Derived.Below
import Derived.Deep.Fields
import Derived.Deep.Slices
namespace Go.Proofs.Ytjflgblplmgjlaa
open Go Go.RowKit Go.ChangeShapes Go.WideShapes Go.ChangeAt Go.Deep
set_option linter.unusedVariables false

def isI64 (P : Program) (t : TypeId) : Bool := match P.underlying t with
  | some (.int .i64) => true
  | _ => false
theorem isI64_spec {P : Program} {t : TypeId} (h : isI64 P t = true) : P.underlying t = some (.int .i64) := by
  unfold isI64 at h
  split at h
  · assumption
  · cases h
def numOf : Option Value → Int
  | some (.int _ z) => z
  | _ => 0

section
variable {H : Type} {enc : TypeId × Value → H} {P : Program} {w : World} {base : Nat} {spare : Nat → Bool} {held : Bool}

/-- Each cell of the struct's value is an int. -/
theorem open_cells {t : TypeId} {fs : Array Field} {l : List Value} {x : DataW H × List MemPlace} {fuel : Nat} (hs : P.underlying t = some (.struct fs)) (hone : oneCellFields P fs = true) (hC : P.cellsOf t = fs.size)
    (hk : (fs.all fun f => isI64 P f.type) = true) (hf : DataW.trod enc P w base spare held fuel t l = some x) :
    ∃ zs : List Int, zs.length = fs.size ∧ l = zs.map (Value.int .i64) := by
  obtain ⟨xs, n, _, _, hl, hlen, hg⟩ := DataW.trod_struct hs hf
  have each : ∀ i, i < fs.size → ∃ z, l[i]? = some (.int .i64 z) := fun i hi => by
    have hfi : fs[i]? = some fs[i] := Array.getElem?_eq_getElem hi
    obtain ⟨ho, hc⟩ := hone_of hone i fs[i] hfi
    have hty : P.underlying fs[i].type = some (.int .i64) :=
      isI64_spec (Array.all_eq_true_iff_forall_mem.1 hk fs[i] (Array.getElem_mem hi))
    have hil : i < l.length := by omega
    have hci : l[i]? = some l[i] := List.getElem?_eq_getElem hil
    have h1 := hg i fs[i] hfi
    rw [ho, hc] at h1
    have h2 : (l.drop i).take 1 = [l[i]] := by
      rw [List.drop_eq_getElem_cons hil]
      rfl
    rw [h2, List.getElem?_eq_getElem (by omega)] at h1
    obtain ⟨z, hz, _, _⟩ := DataW.trod_int hty h1
    exact ⟨z, by rw [hci, (List.cons.inj hz).1]⟩
  refine ⟨(List.range fs.size).map fun i => numOf l[i]?, by simp, ?_⟩
  refine List.ext_getElem (by simp; omega) fun i h1 h2 => ?_
  obtain ⟨z, hz⟩ := each i (by omega)
  have hz' : l[i] = .int .i64 z := by
    rw [List.getElem?_eq_getElem h1] at hz
    exact Option.some.inj hz
  simp [hz', hz, numOf]
theorem open_nums {r : Reach} {b0 : Nat} {t : TypeId} {fs : Array Field} {v : Value} {d : DataW H} {p : List MemPlace} (hs : P.underlying t = some (.struct fs)) (hone : oneCellFields P fs = true) (hC : P.cellsOf t = fs.size)
    (hk : (fs.all fun f => isI64 P f.type) = true) (hv : Value.okWide P w r b0 t v) (h : DataW.Trod enc P w base spare held t v d p) :
    ∃ zs : List Int, zs.length = fs.size ∧ v = .agg (zs.map (Value.int .i64)).toArray := by
  obtain ⟨cs, rfl, hsz⟩ := okWide_struct hs hv
  obtain ⟨fuel, hf⟩ := h
  obtain ⟨zs, hl, he⟩ := open_cells hs hone hC hk hf
  refine ⟨zs, hl, ?_⟩
  rw [← he]
  rfl

theorem addr_next (a : Addr) (k : Nat) : a.add (k + 1) = ⟨a.block, a.off + (k + 1), none⟩ := rfl
theorem cell_lt {w : World} {a : Addr} {v : Value} (h : w.cell? a = some v) : a.block < w.heap.size := by
  rcases Nat.lt_or_ge a.block w.heap.size with h1 | h1
  · exact h1
  · simp [World.cell?, Array.getElem?_eq_none h1] at h

theorem open_runs {r : Reach} {b0 : Nat} {t e : TypeId} {f0 f1 f2 : Field} {v : Value} {d : DataW H} {p : List MemPlace} (ht : P.underlying t = some (.slice e)) (hs : P.underlying e = some (.struct #[f0, f1, f2])) (hone : oneCellFields P #[f0, f1, f2] = true) (hC : P.cellsOf e = 3)
    (hk : (#[f0, f1, f2].all fun f => isI64 P f.type) = true) (hv : Value.okWide P w r b0 t v) (h : DataW.Trod enc P w base spare held t v d p) :
    ∃ (A : Option Addr) (n c : Nat) (ss : List Rn), v = .slice A n c ∧ n = ss.length ∧ Runs w A ss ∧ ss.length ≤ maxLen := by
  obtain ⟨A, n, c, rfl⟩ := okWide_slice ht hv
  obtain ⟨fuel, hf⟩ := h
  rcases open_slice ht hf with ⟨h0, -⟩ | ⟨a, len, cap, m, k, D, Pl, h0, hb, hlc, hcm, hm, -, hx⟩
  · have h0' : Value.slice A n c = .slice none 0 0 := (List.cons.inj h0).1
    cases h0'
    exact ⟨none, 0, 0, [], rfl, rfl, Runs.nil _ _, Nat.zero_le _⟩
  · have h0' : Value.slice A n c = .slice (some a) len cap := (List.cons.inj h0).1
    cases h0'
    have hle : n ≤ m := by rw [hm]; split <;> omega
    have each : ∀ i, i < n → ∃ s : Rn, RnAt w (a.add (i * 3)) s := fun i hi => by
      obtain ⟨cs, h1, h2⟩ := hx i (by omega)
      rw [hC] at h1
      obtain ⟨zs, hl, rfl⟩ := open_cells hs hone hC hk h2
      obtain ⟨-, -, h3⟩ := World.cells?_some h1
      match zs, hl with
      | [z0, z1, z2], _ =>
        refine ⟨⟨z0, z1, z2⟩, rnAt_of fun j hj => ?_⟩
        rw [h3 j hj]
        match j, hj with
        | 0, _ => rfl
        | 1, _ => rfl
        | 2, _ => rfl
    obtain ⟨F, hF⟩ := choose_lt each
    refine ⟨some a, n, c, (List.range n).map F, rfl, by simp, fun hn => ⟨a, rfl, ?_, fun i s hi => ?_⟩, by rw [List.length_map, List.length_range]; omega⟩
    · have h0 : 0 < n := by
        rcases Nat.eq_zero_or_pos n with e | e
        · subst e; exact absurd rfl hn
        · exact e
      have h1 := cell_lt (hF 0 h0).c0
      rwa [add_block] at h1
    · have hin : i < n := by
        have := (List.getElem?_eq_some_iff.1 hi).1
        simpa using this
      have : F i = s := by simpa [hin] using hi
      rw [← this]
      exact hF i hin
theorem open_pts {r : Reach} {b0 : Nat} {t e : TypeId} {f0 f1 : Field} {v : Value} {d : DataW H} {p : List MemPlace} (ht : P.underlying t = some (.slice e)) (hs : P.underlying e = some (.struct #[f0, f1])) (hone : oneCellFields P #[f0, f1] = true) (hC : P.cellsOf e = 2)
    (hk : (#[f0, f1].all fun f => isI64 P f.type) = true) (hv : Value.okWide P w r b0 t v) (h : DataW.Trod enc P w base spare held t v d p) :
    ∃ (A : Option Addr) (n c : Nat) (ss : List P2), v = .slice A n c ∧ n = ss.length ∧ Pts w A ss ∧ ss.length ≤ maxLen := by
  obtain ⟨A, n, c, rfl⟩ := okWide_slice ht hv
  obtain ⟨fuel, hf⟩ := h
  rcases open_slice ht hf with ⟨h0, -⟩ | ⟨a, len, cap, m, k, D, Pl, h0, hb, hlc, hcm, hm, -, hx⟩
  · have h0' : Value.slice A n c = .slice none 0 0 := (List.cons.inj h0).1
    cases h0'
    exact ⟨none, 0, 0, [], rfl, rfl, Pts.nil _ _, Nat.zero_le _⟩
  · have h0' : Value.slice A n c = .slice (some a) len cap := (List.cons.inj h0).1
    cases h0'
    have hle : n ≤ m := by rw [hm]; split <;> omega
    have each : ∀ i, i < n → ∃ s : P2, PtAt w (a.add (i * 2)) s := fun i hi => by
      obtain ⟨cs, h1, h2⟩ := hx i (by omega)
      rw [hC] at h1
      obtain ⟨zs, hl, rfl⟩ := open_cells hs hone hC hk h2
      obtain ⟨-, -, h3⟩ := World.cells?_some h1
      match zs, hl with
      | [z0, z1], _ =>
        refine ⟨⟨z0, z1⟩, ptAt_of fun j hj => ?_⟩
        rw [h3 j hj]
        match j, hj with
        | 0, _ => rfl
        | 1, _ => rfl
    obtain ⟨F, hF⟩ := choose_lt each
    refine ⟨some a, n, c, (List.range n).map F, rfl, by simp, fun hn => ⟨a, rfl, ?_, fun i s hi => ?_⟩, by rw [List.length_map, List.length_range]; omega⟩
    · have h0 : 0 < n := by
        rcases Nat.eq_zero_or_pos n with e | e
        · subst e; exact absurd rfl hn
        · exact e
      have h1 := cell_lt (hF 0 h0).c0
      rwa [add_block] at h1
    · have hin : i < n := by
        have := (List.getElem?_eq_some_iff.1 hi).1
        simpa using this
      have : F i = s := by simpa [hin] using hi
      rw [← this]
      exact hF i hin
/-- A slice has no more values than room. -/
theorem open_cap {t e : TypeId} {A : Option Addr} {n c : Nat} {d : DataW H} {p : List MemPlace} (ht : P.underlying t = some (.slice e)) (h : DataW.Trod enc P w base spare held t (.slice A n c) d p) : n ≤ c ∧ c ≤ maxLen := by
  obtain ⟨fuel, hf⟩ := h
  rcases open_slice ht hf with ⟨h0, -⟩ | ⟨a, len, cap, m, k, D, Pl, h0, hb, hlc, hcm, -⟩
  · have h0' : Value.slice A n c = .slice none 0 0 := (List.cons.inj h0).1
    cases h0'
    exact ⟨Nat.le_refl _, Nat.zero_le _⟩
  · have h0' : Value.slice A n c = .slice (some a) len cap := (List.cons.inj h0).1
    cases h0'
    exact ⟨hlc, hcm⟩
end
theorem i64_wf {n : Int} (h : (Lit.int .i64 n).wf = true) : -9223372036854775808 ≤ n ∧ n ≤ 9223372036854775807 := by
  simp [Lit.wf] at h
  have e1 : IntKind.i64.min = -9223372036854775808 := rfl
  have e2 : IntKind.i64.max = 9223372036854775807 := rfl
  omega
theorem byte_wf {n : Int} (h : (Lit.int .u8 n).wf = true) : 0 ≤ n ∧ n ≤ 255 := by
  simp [Lit.wf] at h
  have e1 : IntKind.u8.min = 0 := rfl
  have e2 : IntKind.u8.max = 255 := rfl
  omega
theorem own : ownKnob Try.prog.godebug = none := by kernel_rfl
theorem laidOut : laidOutB Try.prog = true := by kernel_rfl

end Go.Proofs.Ytjflgblplmgjlaa
