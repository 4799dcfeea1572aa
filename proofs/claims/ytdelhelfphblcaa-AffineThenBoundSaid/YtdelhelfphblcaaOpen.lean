/- An argument that is a struct of ints, by value: it is an aggregate of ints. -/
import Derived.Test.YtdelhelfphblcaaLeaf
import Derived.ProofKit
import Derived.OpenShut
import Derived.Below
import Derived.Deep.Fields
namespace Go.Proofs.Ytdelhelfphblcaa
open Go Go.RowKit Go.ChangeShapes Go.WideShapes Go.ChangeAt Go.Deep
set_option linter.unusedVariables false

def isI64 (P : Program) (t : TypeId) : Bool := match P.underlying t with
  | some (.int .i64) => true
  | _ => false
theorem isI64_spec {P : Program} {t : TypeId} (h : isI64 P t = true) : P.underlying t = some (.int .i64) := by
  unfold isI64 at h
  split at h
  · assumption
  · cases h
def numOf : Option Value → Int
  | some (.int _ z) => z
  | _ => 0

section
variable {H : Type} {enc : TypeId × Value → H} {P : Program} {w : World} {base : Nat} {spare : Nat → Bool} {held : Bool}

/-- Each cell of the struct's value is an int. -/
theorem open_nums {r : Reach} {b0 : Nat} {t : TypeId} {fs : Array Field} {v : Value} {d : DataW H} {p : List MemPlace} (hs : P.underlying t = some (.struct fs)) (hone : oneCellFields P fs = true) (hC : P.cellsOf t = fs.size)
    (hk : (fs.all fun f => isI64 P f.type) = true) (hv : Value.okWide P w r b0 t v) (h : DataW.Trod enc P w base spare held t v d p) :
    ∃ zs : List Int, zs.length = fs.size ∧ v = .agg (zs.map (Value.int .i64)).toArray := by
  obtain ⟨cs, rfl, hsz⟩ := okWide_struct hs hv
  obtain ⟨fuel, hf⟩ := h
  obtain ⟨xs, n, _, _, _, hlen, hg⟩ := DataW.trod_struct hs hf
  have hsz' : cs.size = fs.size := hsz.trans hC
  have each : ∀ i, i < fs.size → ∃ z, cs[i]? = some (.int .i64 z) := fun i hi => by
    have hfi : fs[i]? = some fs[i] := Array.getElem?_eq_getElem hi
    obtain ⟨ho, hc⟩ := hone_of hone i fs[i] hfi
    have hty : P.underlying fs[i].type = some (.int .i64) :=
      isI64_spec (Array.all_eq_true_iff_forall_mem.1 hk fs[i] (Array.getElem_mem hi))
    have hci : cs[i]? = some cs[i] := Array.getElem?_eq_getElem (by omega)
    have h1 := hg i fs[i] hfi
    rw [ho, hc] at h1
    have h2 : ((Value.agg cs).cells.toList.drop i).take 1 = [cs[i]] := by
      show (cs.toList.drop i).take 1 = _
      rw [List.drop_eq_getElem_cons (by simpa using by omega)]
      simp
    rw [h2, List.getElem?_eq_getElem (by omega)] at h1
    obtain ⟨z, hz, _, _⟩ := DataW.trod_int hty h1
    exact ⟨z, by rw [hci, (List.cons.inj hz).1]⟩
  refine ⟨(List.range fs.size).map fun i => numOf cs[i]?, by simp, ?_⟩
  congr 1
  refine Array.ext (by simp [hsz']) fun i h1 h2 => ?_
  obtain ⟨z, hz⟩ := each i (by omega)
  have hz' : cs[i] = .int .i64 z := by
    rw [Array.getElem?_eq_getElem h1] at hz
    exact Option.some.inj hz
  simp [hz', hz, numOf]

theorem open_mx {r : Reach} {b0 : Nat} {t : TypeId} {f0 f1 f2 f3 f4 f5 : Field} {v : Value} {d : DataW H} {p : List MemPlace} (hs : P.underlying t = some (.struct #[f0, f1, f2, f3, f4, f5])) (hone : oneCellFields P #[f0, f1, f2, f3, f4, f5] = true) (hC : P.cellsOf t = 6)
    (hk : (#[f0, f1, f2, f3, f4, f5].all fun f => isI64 P f.type) = true) (hv : Value.okWide P w r b0 t v) (h : DataW.Trod enc P w base spare held t v d p) : ∃ a b c d e f : Int, v = mx a b c d e f := by
  obtain ⟨zs, hl, rfl⟩ := open_nums hs hone hC hk hv h
  match zs, hl with
  | [a, b, c, d, e, f], _ => exact ⟨a, b, c, d, e, f, rfl⟩
theorem open_pt {r : Reach} {b0 : Nat} {t : TypeId} {f0 f1 : Field} {v : Value} {d : DataW H} {p : List MemPlace} (hs : P.underlying t = some (.struct #[f0, f1])) (hone : oneCellFields P #[f0, f1] = true) (hC : P.cellsOf t = 2)
    (hk : (#[f0, f1].all fun f => isI64 P f.type) = true) (hv : Value.okWide P w r b0 t v) (h : DataW.Trod enc P w base spare held t v d p) : ∃ x y : Int, v = pt x y := by
  obtain ⟨zs, hl, rfl⟩ := open_nums hs hone hC hk hv h
  match zs, hl with
  | [x, y], _ => exact ⟨x, y, rfl⟩
end
theorem own : ownKnob Try.prog.godebug = none := by kernel_rfl
theorem laidOut : laidOutB Try.prog = true := by kernel_rfl

end Go.Proofs.Ytdelhelfphblcaa
