/- What the seven listed tables and the world's shape give to a statement that parses. -/
import Derived.Test.YtijkoaggcmgjiabDoorLaid
import Derived.Test.YtijkoaggcmgjiabDoorPNum
import Derived.Shelf.Vars
namespace Go.Proofs.YtijkoaggcmgjiabDoor
open Go Go.RowKit Go.ChangeShapes Go.WideShapes Go.ChangeAt Go.Deep
set_option linter.unusedVariables false

abbrev laid7 : List (String × DataW Unit) := [("math/bits.deBruijn32tab", Rows.laid_math_bits_deBruijn32tab), ("math/bits.deBruijn64tab", Rows.laid_math_bits_deBruijn64tab), ("internal/strconv.uint64pow10", Rows.laid_internal_strconv_uint64pow10), ("unicode/utf8.acceptRanges", Rows.laid_unicode_utf8_acceptRanges), ("strconv.ErrRange", Rows.laid_strconv_ErrRange), ("strconv.ErrSyntax", Rows.laid_strconv_ErrSyntax), ("unicode/utf8.first", Rows.laid_unicode_utf8_first)]
theorem gSyn : Tryd.prog.globalNamed "strconv.ErrSyntax" = some 3 := by kernel_rfl
theorem gRan : Tryd.prog.globalNamed "strconv.ErrRange" = some 4 := by kernel_rfl
theorem gSynType : (Tryd.prog.globals[3]?).map (·.type) = some 65 := by kernel_rfl
theorem gRanType : (Tryd.prog.globals[4]?).map (·.type) = some 65 := by kernel_rfl
theorem starE : Tryd.prog.typeName? 3 121 = some "*errors.errorString" := by kernel_rfl
theorem rowE (u : TypeId) (h : Tryd.prog.typeName? 3 u = some "*errors.errorString") : u = 121 :=
  typeName_ptr_named (nm := "errors.errorString") (by kernel_rfl) (by kernel_rfl) (by decide) u h
theorem cellsE : Tryd.prog.cellsOf 123 = 1 := by kernel_rfl
theorem cellsS : Tryd.prog.cellsOf 9 = 1 := by kernel_rfl
theorem env7 {W : World} (h : laidMetH Tryd.prog laid7 W) (hsh : W.ShapedOpen Tryd.prog) : Env W := by
  have h0 : laidMet Tryd.prog laid7 W := h
  have h2 := laidMet.tail (laidMet.tail h0)
  have h4 := laidMet.tail (laidMet.tail h2)
  have h5 := laidMet.tail h4
  obtain ⟨a4, s4, hv4, -⟩ := laid_sentinel h5 gSyn gSynType Tryd.underlying65 rowE Tryd.underlying121 Tryd.underlying123 rfl rfl Tryd.underlying9 cellsE cellsS
  obtain ⟨a5, s5, hv5, -⟩ := laid_sentinel h4 gRan gRanType Tryd.underlying65 rowE Tryd.underlying121 Tryd.underlying123 rfl rfl Tryd.underlying9 cellsE cellsS
  refine ⟨table h2, ?_, ⟨_, (World.var?_cell gSyn hv4 0).trans rfl, .inr ⟨_, _, rfl⟩⟩, ⟨_, (World.var?_cell gRan hv5 0).trans rfl, .inr ⟨_, _, rfl⟩⟩⟩
  exact cell_of_shapedOpen_int (t := 3) (zero := #[.int .i64 0]) hsh (by decide) (by kernel_rfl) rfl (by kernel_rfl) (by kernel_rfl) Tryd.underlying3

/-- The cells that a listed datum of rows fills. -/
def litCells2 : DataW Unit → Array Value
  | .agg l => (l.flatMap fun
    | .agg m => m.map fun
      | .lit (.int k z) => Value.int k z
      | _ => undef
    | _ => []).toArray
  | _ => #[]
def fill2 (d : DataW Unit) : Obj → Obj
  | .cells _ t frozen => .cells (litCells2 d) t frozen
  | o => o
def fillP (n : Nat) : Obj → Obj
  | .cells _ t frozen => .cells #[.iface 121 (.pointer (some ⟨n, 0, none⟩))] t frozen
  | o => o
abbrev synS : ByteArray := { data := #[105, 110, 118, 97, 108, 105, 100, 32, 115, 121, 110, 116, 97, 120] }
abbrev ranS : ByteArray := { data := #[118, 97, 108, 117, 101, 32, 111, 117, 116, 32, 111, 102, 32, 114, 97, 110, 103, 101] }
noncomputable def low7 : Nat := (World.holding Tryd.prog default ⟨#[], #[], []⟩).heap.size
noncomputable def laidWorld7 (os : Os) : World :=
  let w0 := World.holding Tryd.prog os ⟨#[.cells #[.string synS] 123, .cells #[.string ranS] 123], #[], []⟩
  { w0 with heap := ((((((w0.heap.modify 6 (fill Rows.laid_math_bits_deBruijn32tab)).modify 7 (fill Rows.laid_math_bits_deBruijn64tab)).modify 5 (fill Rows.laid_internal_strconv_uint64pow10)).modify 1 (fill Rows.laid_unicode_utf8_first)).modify 2 (fill2 Rows.laid_unicode_utf8_acceptRanges)).modify 3 (fillP low7)).modify 4 (fillP (low7 + 1)) }
theorem laid_met7 (os : Os) (args : Array Value) : laidMet Tryd.prog laid7 ((laidWorld7 os).forCall (fun _ _ => 0) ⟨#[], args, []⟩).memory :=
  laidMet_of_run' 8 (by kernel_rfl) (by kernel_rfl)

end Go.Proofs.YtijkoaggcmgjiabDoor
