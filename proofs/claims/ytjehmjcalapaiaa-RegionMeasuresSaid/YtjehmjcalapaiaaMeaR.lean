/- The sixth region of the law of Has, Area and Bounds. -/
import Derived.Test.YtjehmjcalapaiaaRgn
import Derived.BigRegion
import Derived.StillTail
import Derived.StillTactics
namespace Go.Proofs.Ytjehmjcalapaiaa
open Go Go.RowKit
set_option linter.unusedVariables false
set_option maxRecDepth 100000 in
set_option maxHeartbeats 2000000 in
theorem reg18 {u1 u2 u3 u4 u5 u6 u7 u8 u9 u10 u11 u12 u13 u14 u15 u18 u19 u20 u21 u22 u23 u24 u25 u26 u27 u28 u29 u30 u31 u32 u33 u34 u35 u36 u37 u38 u39 u40 u41 u42 u43 u44 u45 u46 u47 u48 u49 u50 u51 u52 u53 u54 u55 u56 u57 u58 u59 u60 u61 u62 u63 u64 u65 u66 u67 u68 u69 u70 u71 u72 u73 u74 u75 u76 u77 u78 u79 u80 u81 u82 u83 u84 u85 u86 u87 u88 u89 u90 u91 u92 u93 u94 u95 u96 u97 u98 u99 u100 u101 u102 u103 u104 u105 u106 u107 u108 u109 u110 u111 u112 u113 u114 u115 u116 u117 u118 u119 u120 u121 u122 u123 u124 u125 u126 u127 u128 u129 u130 u131 u132 u133 u134 u135 u136 u137 u138 u139 u140 u141 u142 u143 u144 u145 u146 u147 u148 u149 u150 u151 u152 u153 u154 u155 u156 u157 u158 u159 u160 u161 u162 : Value} {a : Addr} {n c j B : Nat} {R S ry ra rb : Int} {Q : Exit → Act → World → Prop} {w : World} (hj : j < n) (hji : (j : Int) < (n : Int)) (hj0 : (0 : Int) ≤ (j : Int)) (hnb : n ≤ 1000000000) (hy1 : -8192 ≤ ry) (hy2 : ry ≤ 8191)
    (c0 : w.cell? (a.add (j * 3)) = some (.int .i64 ry)) (c1 : w.cell? ⟨(a.add (j * 3)).block, (a.add (j * 3)).off + 1, none⟩ = some (.int .i64 ra)) (c2 : w.cell? ⟨(a.add (j * 3)).block, (a.add (j * 3)).off + 2, none⟩ = some (.int .i64 rb))
    (q0 : w.cell? ⟨B, 0, none⟩ = some (.int .i64 R)) (q1 : w.cell? ⟨B, 1, none⟩ = some (.int .i64 S)) (qf : ∀ i : Nat, w.frozen? ⟨B, i, none⟩ = false)
    (k : Q .normal ⟨#[.slice (some a) n c, u1, u2, u3, u4, u5, u6, u7, u8, u9, u10, u11, u12, u13, u14, u15, .pointer (some ⟨B, 0, none⟩), .int .i64 (j : Int), u18, u19, u20, u21, u22, u23, u24, u25, u26, u27, u28, u29, u30, u31, u32, u33, u34, u35, u36, u37, u38, u39, u40, u41, u42, u43, u44, u45, u46, u47, u48, u49, u50, u51, u52, u53, u54, u55, u56, u57, u58, u59, u60, u61, u62, u63, u64, u65, u66, u67, u68, u69, u70, u71, u72, u73, u74, u75, u76, u77, u78, u79, u80, u81, u82, u83, u84, u85, u86, u87, u88, u89, u90, u91, u92, u93, u94, u95, u96, u97, u98, u99, u100, u101, u102, u103, u104, u105, u106, u107, u108, u109, u110, u111, u112, u113, u114, u115, u116, u117, u118, u119, u120, u121, u122, u123, u124, u125, u126, u127, u128, u129, u130, u131, .pointer (some ⟨B, 0, none⟩), .int .i64 R, .slice (some a) n c, .int .i64 (j : Int), .pointer (some (a.add (j * 3))), .pointer (some ⟨(a.add (j * 3)).block, (a.add (j * 3)).off + 2, none⟩), .int .i64 rb, .int .i64 (max R rb), .pointer (some ⟨B, 1, none⟩), .int .i64 S, .slice (some a) n c, .int .i64 (j : Int), .pointer (some (a.add (j * 3))), .pointer (some (a.add (j * 3))), .int .i64 ry, .int .i64 (ry + 1), .int .i64 (max S (ry + 1)), .agg #[.int .i64 (max R rb), .int .i64 (max S (ry + 1))], u150, u151, u152, u153, u154, u155, u156, u157, u158, u159, u160, u161, u162], []⟩ ((w.drew.setCell ⟨B, 0, none⟩ (.int .i64 (max R rb))).setCell ⟨B, 1, none⟩ (.int .i64 (max S (ry + 1))))) :
    Code.wp Try.prog
    (Code.region 18
      #[{ dst := some 132, op := Op.fieldAddr 32 (Operand.tmp 16) 0, type := 0, pos := "regions.go:144", after := #[],
          guard := none },
        { dst := some 133, op := Op.load 3 (Operand.tmp 132), type := 3, pos := "regions.go:144",
          after := #[{ on := 0, ground := Ground.data }], guard := none },
        { dst := some 134, op := Op.move (Operand.tmp 0), type := 36, pos := "regions.go:144", after := #[],
          guard := none },
        { dst := some 135, op := Op.move (Operand.tmp 17), type := 3, pos := "regions.go:144", after := #[],
          guard := none },
        { dst := some 136, op := Op.indexAddr 36 (Operand.tmp 134) (Operand.tmp 135), type := 0,
          pos := "regions.go:144", after := #[{ on := 2, ground := Ground.data }, { on := 3, ground := Ground.data }],
          guard := none },
        { dst := some 137, op := Op.fieldAddr 43 (Operand.tmp 136) 2, type := 0, pos := "regions.go:144",
          after := #[{ on := 4, ground := Ground.data }], guard := none },
        { dst := some 138, op := Op.load 3 (Operand.tmp 137), type := 3, pos := "regions.go:144",
          after := #[{ on := 5, ground := Ground.data }], guard := none },
        { dst := some 139,
          op :=
            Op.call
              { callee := Callee.builtin Builtin.max, args := #[Operand.tmp 133, Operand.tmp 138],
                argTypes := #[3, 3] },
          type := 3, pos := "regions.go:144",
          after := #[{ on := 1, ground := Ground.data }, { on := 6, ground := Ground.data }], guard := none },
        { dst := some 140, op := Op.fieldAddr 32 (Operand.tmp 16) 1, type := 0, pos := "regions.go:144", after := #[],
          guard := none },
        { dst := some 141, op := Op.load 3 (Operand.tmp 140), type := 3, pos := "regions.go:144",
          after := #[{ on := 8, ground := Ground.data }], guard := none },
        { dst := some 142, op := Op.move (Operand.tmp 0), type := 36, pos := "regions.go:144", after := #[],
          guard := none },
        { dst := some 143, op := Op.move (Operand.tmp 17), type := 3, pos := "regions.go:144", after := #[],
          guard := none },
        { dst := some 144, op := Op.indexAddr 36 (Operand.tmp 142) (Operand.tmp 143), type := 0,
          pos := "regions.go:144", after := #[{ on := 10, ground := Ground.data }, { on := 11, ground := Ground.data }],
          guard := none },
        { dst := some 145, op := Op.fieldAddr 43 (Operand.tmp 144) 0, type := 0, pos := "regions.go:144",
          after := #[{ on := 12, ground := Ground.data }], guard := none },
        { dst := some 146, op := Op.load 3 (Operand.tmp 145), type := 3, pos := "regions.go:144",
          after := #[{ on := 13, ground := Ground.data }], guard := none },
        { dst := some 147, op := Op.binOp BinOp.add 3 (Operand.tmp 146) (Operand.const (Value.int IntKind.i64 1)) 3,
          type := 3, pos := "regions.go:144", after := #[{ on := 14, ground := Ground.data }], guard := none },
        { dst := some 148,
          op :=
            Op.call
              { callee := Callee.builtin Builtin.max, args := #[Operand.tmp 141, Operand.tmp 147],
                argTypes := #[3, 3] },
          type := 3, pos := "regions.go:144",
          after := #[{ on := 9, ground := Ground.data }, { on := 15, ground := Ground.data }], guard := none },
        { dst := some 149, op := Op.build 32 #[(0, Operand.tmp 139), (1, Operand.tmp 148)], type := 32,
          pos := "regions.go:144", after := #[{ on := 7, ground := Ground.data }, { on := 16, ground := Ground.data }],
          guard := none },
        { dst := none, op := Op.store 32 (Operand.tmp 16) (Operand.tmp 149), type := 0, pos := "regions.go:144",
          after :=
            #[{ on := 17, ground := Ground.data }, { on := 0, ground := Ground.phase },
              { on := 1, ground := Ground.phase }, { on := 2, ground := Ground.phase },
              { on := 3, ground := Ground.phase }, { on := 4, ground := Ground.phase },
              { on := 5, ground := Ground.phase }, { on := 6, ground := Ground.phase },
              { on := 7, ground := Ground.phase }, { on := 8, ground := Ground.phase },
              { on := 9, ground := Ground.phase }, { on := 10, ground := Ground.phase },
              { on := 11, ground := Ground.phase }, { on := 12, ground := Ground.phase },
              { on := 13, ground := Ground.phase }, { on := 14, ground := Ground.phase },
              { on := 15, ground := Ground.phase }, { on := 16, ground := Ground.phase },
              { on := 17, ground := Ground.phase }],
          guard := none }]
      true) Q ⟨#[.slice (some a) n c, u1, u2, u3, u4, u5, u6, u7, u8, u9, u10, u11, u12, u13, u14, u15, .pointer (some ⟨B, 0, none⟩), .int .i64 (j : Int), u18, u19, u20, u21, u22, u23, u24, u25, u26, u27, u28, u29, u30, u31, u32, u33, u34, u35, u36, u37, u38, u39, u40, u41, u42, u43, u44, u45, u46, u47, u48, u49, u50, u51, u52, u53, u54, u55, u56, u57, u58, u59, u60, u61, u62, u63, u64, u65, u66, u67, u68, u69, u70, u71, u72, u73, u74, u75, u76, u77, u78, u79, u80, u81, u82, u83, u84, u85, u86, u87, u88, u89, u90, u91, u92, u93, u94, u95, u96, u97, u98, u99, u100, u101, u102, u103, u104, u105, u106, u107, u108, u109, u110, u111, u112, u113, u114, u115, u116, u117, u118, u119, u120, u121, u122, u123, u124, u125, u126, u127, u128, u129, u130, u131, u132, u133, u134, u135, u136, u137, u138, u139, u140, u141, u142, u143, u144, u145, u146, u147, u148, u149, u150, u151, u152, u153, u154, u155, u156, u157, u158, u159, u160, u161, u162], []⟩ w := by
  have k' : Q .normal ⟨#[.slice (some a) n c, u1, u2, u3, u4, u5, u6, u7, u8, u9, u10, u11, u12, u13, u14, u15, .pointer (some ⟨B, 0, none⟩), .int .i64 (j : Int), u18, u19, u20, u21, u22, u23, u24, u25, u26, u27, u28, u29, u30, u31, u32, u33, u34, u35, u36, u37, u38, u39, u40, u41, u42, u43, u44, u45, u46, u47, u48, u49, u50, u51, u52, u53, u54, u55, u56, u57, u58, u59, u60, u61, u62, u63, u64, u65, u66, u67, u68, u69, u70, u71, u72, u73, u74, u75, u76, u77, u78, u79, u80, u81, u82, u83, u84, u85, u86, u87, u88, u89, u90, u91, u92, u93, u94, u95, u96, u97, u98, u99, u100, u101, u102, u103, u104, u105, u106, u107, u108, u109, u110, u111, u112, u113, u114, u115, u116, u117, u118, u119, u120, u121, u122, u123, u124, u125, u126, u127, u128, u129, u130, u131, .pointer (some ⟨B, 0, none⟩), .int .i64 R, .slice (some a) n c, .int .i64 (j : Int), .pointer (some (a.add (j * 3))), .pointer (some ⟨(a.add (j * 3)).block, (a.add (j * 3)).off + 2, none⟩), .int .i64 rb, .int .i64 (max R rb), .pointer (some ⟨B, 1, none⟩), .int .i64 S, .slice (some a) n c, .int .i64 (j : Int), .pointer (some (a.add (j * 3))), .pointer (some (a.add (j * 3))), .int .i64 ry, .int .i64 (ry + 1), .int .i64 (max S (ry + 1)), .agg #[.int .i64 (max R rb), .int .i64 (max S (ry + 1))], u150, u151, u152, u153, u154, u155, u156, u157, u158, u159, u160, u161, u162], []⟩ ((({ w with drawn := w.drawn + 1 } : World).setCell ⟨B, 0, none⟩ (.int .i64 (max R rb))).setCell ⟨B, 1, none⟩ (.int .i64 (max S (ry + 1)))) := k
  have c0' : ({ w with drawn := w.drawn + 1 } : World).cell? (a.add (j * 3)) = some (.int .i64 ry) := c0
  have c1' : ({ w with drawn := w.drawn + 1 } : World).cell? ⟨(a.add (j * 3)).block, (a.add (j * 3)).off + 1, none⟩ = some (.int .i64 ra) := c1
  have c2' : ({ w with drawn := w.drawn + 1 } : World).cell? ⟨(a.add (j * 3)).block, (a.add (j * 3)).off + 2, none⟩ = some (.int .i64 rb) := c2
  have q0' : ({ w with drawn := w.drawn + 1 } : World).cell? ⟨B, 0, none⟩ = some (.int .i64 R) := q0
  have q1' : ({ w with drawn := w.drawn + 1 } : World).cell? ⟨B, 1, none⟩ = some (.int .i64 S) := q1
  have qf' : ∀ i : Nat, ({ w with drawn := w.drawn + 1 } : World).frozen? ⟨B, i, none⟩ = false := qf
  refine wp_region_still_tail 18 (by kernel_rfl) (by kernel_rfl) ?_
  clear k c0 c1 c2 q0 q1 qf
  generalize ({ w with drawn := w.drawn + 1 } : World) = W at *
  simp only [List.take_succ_cons, List.take_zero, List.drop_succ_cons, List.drop_zero]
  repeat still_step
  try refine wpStill_nil ?_
  have hw : IntKind.i64.wrap (ry + 1) = ry + 1 := IntWalk.i64_in _ (by omega)
  go_wp2
  all_goals try rw [hw]
  all_goals first
    | (rw [show max R rb = R by omega, show max S (ry + 1) = S by omega] at k'; exact k')
    | (rw [show max R rb = R by omega, show max S (ry + 1) = ry + 1 by omega] at k'; exact k')
    | (rw [show max R rb = rb by omega, show max S (ry + 1) = S by omega] at k'; exact k')
    | (rw [show max R rb = rb by omega, show max S (ry + 1) = ry + 1 by omega] at k'; exact k')
end Go.Proofs.Ytjehmjcalapaiaa
