/- The region of the reference's PathParse that lays a quadratic curve's numbers. -/
import Derived.Test.YtijkoaggcmgjiabDoorTabS
import Derived.Test.YtijkoaggcmgjiabDoorSegB
namespace Go.Proofs.YtijkoaggcmgjiabDoor
open Go Go.RowKit
set_option linter.unusedVariables false
set_option linter.unusedSimpArgs false

structure MQ (B : Nat) (W : World) (z0 z1 z2 z3 z4 : Int) (L : Nat → Bool) (w : World) : Prop where
  b : Below B W w
  m : Var w B #[.int .i64 3, .int .i64 (bif L 15 then z2 else 0), .int .i64 (bif L 17 then z3 else 0), .int .i64 (bif L 11 then z0 else 0), .int .i64 (bif L 13 then z1 else 0), .int .i64 (bif L 19 then z4 else 0)] 38
  p : Var w (B + 1) #[.int .i64 z0, .int .i64 z1, .int .i64 z2, .int .i64 z3, .int .i64 z4] 44
section
variable {B : Nat} {W w : World} {z0 z1 z2 z3 z4 : Int} {L : Nat → Bool}
theorem q_ne {i j : Nat} (h : Nat.beq j i = false) : j ≠ i := fun e => by subst e; rw [Nat.beq_refl] at h; cases h
theorem MQ.mark {i : Nat} (h : MQ B W z0 z1 z2 z3 z4 L w) (hi : Nat.beq 11 i = false ∧ Nat.beq 13 i = false ∧ Nat.beq 15 i = false ∧ Nat.beq 17 i = false ∧ Nat.beq 19 i = false) : MQ B W z0 z1 z2 z3 z4 (Iv.mark L i) w := by
  have e0 : Iv.mark L i 11 = L 11 := mark_ne (q_ne hi.1)
  have e1 : Iv.mark L i 13 = L 13 := mark_ne (q_ne hi.2.1)
  have e2 : Iv.mark L i 15 = L 15 := mark_ne (q_ne hi.2.2.1)
  have e3 : Iv.mark L i 17 = L 17 := mark_ne (q_ne hi.2.2.2.1)
  have e4 : Iv.mark L i 19 = L 19 := mark_ne (q_ne hi.2.2.2.2)
  exact ⟨h.b, by rw [e0, e1, e2, e3, e4]; exact h.m, h.p⟩
theorem MQ.s11 (h : MQ B W z0 z1 z2 z3 z4 L w) : MQ B W z0 z1 z2 z3 z4 (Iv.mark L 11) (w.setCell ⟨B, 3, none⟩ (.int .i64 z0)) :=
  ⟨h.b.setCell (p := ⟨B, 3, none⟩) (Nat.le_refl B) _, h.m.set (i := 3) _, h.p.far (p := ⟨B, 3, none⟩) (by show B + 1 ≠ B; omega) _⟩
theorem MQ.s13 (h : MQ B W z0 z1 z2 z3 z4 L w) : MQ B W z0 z1 z2 z3 z4 (Iv.mark L 13) (w.setCell ⟨B, 4, none⟩ (.int .i64 z1)) :=
  ⟨h.b.setCell (p := ⟨B, 4, none⟩) (Nat.le_refl B) _, h.m.set (i := 4) _, h.p.far (p := ⟨B, 4, none⟩) (by show B + 1 ≠ B; omega) _⟩
theorem MQ.s15 (h : MQ B W z0 z1 z2 z3 z4 L w) : MQ B W z0 z1 z2 z3 z4 (Iv.mark L 15) (w.setCell ⟨B, 1, none⟩ (.int .i64 z2)) :=
  ⟨h.b.setCell (p := ⟨B, 1, none⟩) (Nat.le_refl B) _, h.m.set (i := 1) _, h.p.far (p := ⟨B, 1, none⟩) (by show B + 1 ≠ B; omega) _⟩
theorem MQ.s17 (h : MQ B W z0 z1 z2 z3 z4 L w) : MQ B W z0 z1 z2 z3 z4 (Iv.mark L 17) (w.setCell ⟨B, 2, none⟩ (.int .i64 z3)) :=
  ⟨h.b.setCell (p := ⟨B, 2, none⟩) (Nat.le_refl B) _, h.m.set (i := 2) _, h.p.far (p := ⟨B, 2, none⟩) (by show B + 1 ≠ B; omega) _⟩
theorem MQ.s19 (h : MQ B W z0 z1 z2 z3 z4 L w) : MQ B W z0 z1 z2 z3 z4 (Iv.mark L 19) (w.setCell ⟨B, 5, none⟩ (.int .i64 z4)) :=
  ⟨h.b.setCell (p := ⟨B, 5, none⟩) (Nat.le_refl B) _, h.m.set (i := 5) _, h.p.far (p := ⟨B, 5, none⟩) (by show B + 1 ≠ B; omega) _⟩
theorem run_ixA0 {ρ : Operand → Value} {dst : Option Tmp} {ty : TypeId} {pos : String} {af : Array Edge} {x : Operand} {w : World} {gd : Option (Nat × Bool)} {n : Nat} (hx : ρ x = .pointer (some ⟨n, 0, none⟩)) (hk : ρ (.const (.int .i64 0)) = .int .i64 0) :
    (execOp ρ { dst := dst, op := .indexAddr 44 x (.const (.int .i64 0)), type := ty, pos := pos, after := af, guard := gd }).run Tryd.prog w = .ok (.value (.pointer (some ⟨n, 0, none⟩))) w := by
  go_simp
theorem run_ixA1 {ρ : Operand → Value} {dst : Option Tmp} {ty : TypeId} {pos : String} {af : Array Edge} {x : Operand} {w : World} {gd : Option (Nat × Bool)} {n : Nat} (hx : ρ x = .pointer (some ⟨n, 0, none⟩)) (hk : ρ (.const (.int .i64 1)) = .int .i64 1) :
    (execOp ρ { dst := dst, op := .indexAddr 44 x (.const (.int .i64 1)), type := ty, pos := pos, after := af, guard := gd }).run Tryd.prog w = .ok (.value (.pointer (some ⟨n, 1, none⟩))) w := by
  go_simp
theorem run_ixA2 {ρ : Operand → Value} {dst : Option Tmp} {ty : TypeId} {pos : String} {af : Array Edge} {x : Operand} {w : World} {gd : Option (Nat × Bool)} {n : Nat} (hx : ρ x = .pointer (some ⟨n, 0, none⟩)) (hk : ρ (.const (.int .i64 2)) = .int .i64 2) :
    (execOp ρ { dst := dst, op := .indexAddr 44 x (.const (.int .i64 2)), type := ty, pos := pos, after := af, guard := gd }).run Tryd.prog w = .ok (.value (.pointer (some ⟨n, 2, none⟩))) w := by
  go_simp
theorem run_ixA3 {ρ : Operand → Value} {dst : Option Tmp} {ty : TypeId} {pos : String} {af : Array Edge} {x : Operand} {w : World} {gd : Option (Nat × Bool)} {n : Nat} (hx : ρ x = .pointer (some ⟨n, 0, none⟩)) (hk : ρ (.const (.int .i64 3)) = .int .i64 3) :
    (execOp ρ { dst := dst, op := .indexAddr 44 x (.const (.int .i64 3)), type := ty, pos := pos, after := af, guard := gd }).run Tryd.prog w = .ok (.value (.pointer (some ⟨n, 3, none⟩))) w := by
  go_simp
theorem run_ixA4 {ρ : Operand → Value} {dst : Option Tmp} {ty : TypeId} {pos : String} {af : Array Edge} {x : Operand} {w : World} {gd : Option (Nat × Bool)} {n : Nat} (hx : ρ x = .pointer (some ⟨n, 0, none⟩)) (hk : ρ (.const (.int .i64 4)) = .int .i64 4) :
    (execOp ρ { dst := dst, op := .indexAddr 44 x (.const (.int .i64 4)), type := ty, pos := pos, after := af, guard := gd }).run Tryd.prog w = .ok (.value (.pointer (some ⟨n, 4, none⟩))) w := by
  go_simp
theorem run_fS3 {ρ : Operand → Value} {dst : Option Tmp} {ty : TypeId} {pos : String} {af : Array Edge} {x : Operand} {w : World} {gd : Option (Nat × Bool)} {n : Nat} (hx : ρ x = .pointer (some ⟨n, 0, none⟩)) :
    (execOp ρ { dst := dst, op := .fieldAddr 38 x 3, type := ty, pos := pos, after := af, guard := gd }).run Tryd.prog w = .ok (.value (.pointer (some ⟨n, 3, none⟩))) w := by
  go_simp
theorem run_fS4 {ρ : Operand → Value} {dst : Option Tmp} {ty : TypeId} {pos : String} {af : Array Edge} {x : Operand} {w : World} {gd : Option (Nat × Bool)} {n : Nat} (hx : ρ x = .pointer (some ⟨n, 0, none⟩)) :
    (execOp ρ { dst := dst, op := .fieldAddr 38 x 4, type := ty, pos := pos, after := af, guard := gd }).run Tryd.prog w = .ok (.value (.pointer (some ⟨n, 4, none⟩))) w := by
  go_simp
theorem run_fS1 {ρ : Operand → Value} {dst : Option Tmp} {ty : TypeId} {pos : String} {af : Array Edge} {x : Operand} {w : World} {gd : Option (Nat × Bool)} {n : Nat} (hx : ρ x = .pointer (some ⟨n, 0, none⟩)) :
    (execOp ρ { dst := dst, op := .fieldAddr 38 x 1, type := ty, pos := pos, after := af, guard := gd }).run Tryd.prog w = .ok (.value (.pointer (some ⟨n, 1, none⟩))) w := by
  go_simp
theorem run_fS2 {ρ : Operand → Value} {dst : Option Tmp} {ty : TypeId} {pos : String} {af : Array Edge} {x : Operand} {w : World} {gd : Option (Nat × Bool)} {n : Nat} (hx : ρ x = .pointer (some ⟨n, 0, none⟩)) :
    (execOp ρ { dst := dst, op := .fieldAddr 38 x 2, type := ty, pos := pos, after := af, guard := gd }).run Tryd.prog w = .ok (.value (.pointer (some ⟨n, 2, none⟩))) w := by
  go_simp
theorem run_fS5 {ρ : Operand → Value} {dst : Option Tmp} {ty : TypeId} {pos : String} {af : Array Edge} {x : Operand} {w : World} {gd : Option (Nat × Bool)} {n : Nat} (hx : ρ x = .pointer (some ⟨n, 0, none⟩)) :
    (execOp ρ { dst := dst, op := .fieldAddr 38 x 5, type := ty, pos := pos, after := af, guard := gd }).run Tryd.prog w = .ok (.value (.pointer (some ⟨n, 5, none⟩))) w := by
  go_simp
end
set_option maxRecDepth 100000 in
set_option maxHeartbeats 4000000 in
theorem reg28 {u0 u1 u2 u3 u4 u5 u7 u9 u10 u11 u12 u13 u14 u15 u16 u17 u18 u19 u20 u21 u22 u23 u24 u25 u26 u27 u28 u29 u30 u31 u32 u33 u34 u35 u36 u37 u38 u39 u40 u41 u42 u43 u44 u45 u46 u47 u48 u49 u50 u51 u52 u53 u54 u55 u56 u57 u58 u59 u60 u61 u62 u63 u64 u65 u66 u67 u68 u69 u70 u71 u72 u73 u74 u75 u76 u77 u78 u79 u80 u81 u82 u83 u84 u85 u86 u87 u88 u89 u90 u91 u92 u93 u94 u95 u96 u97 u98 u99 u100 u101 u102 u103 u104 u105 u106 u107 u108 u109 u110 u111 u112 : Value} {B : Nat} {z0 z1 z2 z3 z4 : Int} {Q : Exit → Act → World → Prop} {w : World}
    (hV : Var w B (cel ⟨3, 0, 0, 0, 0, 0⟩) 38) (hP : Var w (B + 1) #[.int .i64 z0, .int .i64 z1, .int .i64 z2, .int .i64 z3, .int .i64 z4] 44)
    (k : ∀ w', Var w' B (cel ⟨3, z2, z3, z0, z1, z4⟩) 38 → Below B w w' → Q .normal ⟨#[u0, u1, u2, u3, u4, u5, .pointer (some ⟨B, 0, none⟩), u7, .pointer (some ⟨B + 1, 0, none⟩), u9, u10, u11, u12, u13, u14, u15, u16, u17, u18, u19, u20, u21, u22, u23, u24, u25, u26, u27, u28, u29, u30, u31, u32, u33, u34, u35, u36, u37, u38, u39, u40, u41, u42, u43, u44, u45, u46, u47, u48, u49, u50, u51, u52, u53, u54, u55, u56, u57, u58, u59, u60, u61, u62, u63, u64, .pointer (some ⟨B + 1, 0, none⟩), .int .i64 z0, .pointer (some ⟨B + 1, 1, none⟩), .int .i64 z1, .pointer (some ⟨B + 1, 2, none⟩), .int .i64 z2, .pointer (some ⟨B + 1, 3, none⟩), .int .i64 z3, .pointer (some ⟨B + 1, 4, none⟩), .int .i64 z4, .pointer (some ⟨B, 3, none⟩), .pointer (some ⟨B, 4, none⟩), .pointer (some ⟨B, 1, none⟩), .pointer (some ⟨B, 2, none⟩), .pointer (some ⟨B, 5, none⟩), u80, u81, u82, u83, u84, u85, u86, u87, u88, u89, u90, u91, u92, u93, u94, u95, u96, u97, u98, u99, u100, u101, u102, u103, u104, u105, u106, u107, u108, u109, u110, u111, u112], []⟩ w') :
    Code.wp Tryd.prog
    (Code.region 28
      #[{ dst := some 65, op := Op.indexAddr 44 (Operand.tmp 8) (Operand.const (Value.int IntKind.i64 0)), type := 0,
          pos := "paths.go:267", after := #[], guard := none },
        { dst := some 66, op := Op.load 3 (Operand.tmp 65), type := 3, pos := "paths.go:267",
          after := #[{ on := 0, ground := Ground.data }], guard := none },
        { dst := some 67, op := Op.indexAddr 44 (Operand.tmp 8) (Operand.const (Value.int IntKind.i64 1)), type := 0,
          pos := "paths.go:267", after := #[{ on := 11, ground := Ground.gcOnly Departure.lateStores }],
          guard := none },
        { dst := some 68, op := Op.load 3 (Operand.tmp 67), type := 3, pos := "paths.go:267",
          after := #[{ on := 2, ground := Ground.data }, { on := 11, ground := Ground.gcOnly Departure.lateStores }],
          guard := none },
        { dst := some 69, op := Op.indexAddr 44 (Operand.tmp 8) (Operand.const (Value.int IntKind.i64 2)), type := 0,
          pos := "paths.go:267", after := #[{ on := 13, ground := Ground.gcOnly Departure.lateStores }],
          guard := none },
        { dst := some 70, op := Op.load 3 (Operand.tmp 69), type := 3, pos := "paths.go:267",
          after := #[{ on := 4, ground := Ground.data }, { on := 13, ground := Ground.gcOnly Departure.lateStores }],
          guard := none },
        { dst := some 71, op := Op.indexAddr 44 (Operand.tmp 8) (Operand.const (Value.int IntKind.i64 3)), type := 0,
          pos := "paths.go:267", after := #[{ on := 15, ground := Ground.gcOnly Departure.lateStores }],
          guard := none },
        { dst := some 72, op := Op.load 3 (Operand.tmp 71), type := 3, pos := "paths.go:267",
          after := #[{ on := 6, ground := Ground.data }, { on := 15, ground := Ground.gcOnly Departure.lateStores }],
          guard := none },
        { dst := some 73, op := Op.indexAddr 44 (Operand.tmp 8) (Operand.const (Value.int IntKind.i64 4)), type := 0,
          pos := "paths.go:267", after := #[{ on := 17, ground := Ground.gcOnly Departure.lateStores }],
          guard := none },
        { dst := some 74, op := Op.load 3 (Operand.tmp 73), type := 3, pos := "paths.go:267",
          after := #[{ on := 8, ground := Ground.data }, { on := 17, ground := Ground.gcOnly Departure.lateStores }],
          guard := none },
        { dst := some 75, op := Op.fieldAddr 38 (Operand.tmp 6) 3, type := 0, pos := "paths.go:267",
          after :=
            #[{ on := 0, ground := Ground.phase }, { on := 1, ground := Ground.phase },
              { on := 2, ground := Ground.textOnly Departure.lateStores },
              { on := 3, ground := Ground.textOnly Departure.lateStores },
              { on := 4, ground := Ground.textOnly Departure.lateStores },
              { on := 5, ground := Ground.textOnly Departure.lateStores },
              { on := 6, ground := Ground.textOnly Departure.lateStores },
              { on := 7, ground := Ground.textOnly Departure.lateStores },
              { on := 8, ground := Ground.textOnly Departure.lateStores },
              { on := 9, ground := Ground.textOnly Departure.lateStores }],
          guard := none },
        { dst := none, op := Op.store 3 (Operand.tmp 75) (Operand.tmp 66), type := 0, pos := "paths.go:267",
          after :=
            #[{ on := 10, ground := Ground.data }, { on := 1, ground := Ground.data },
              { on := 0, ground := Ground.phase }, { on := 1, ground := Ground.phase },
              { on := 2, ground := Ground.textOnly Departure.lateStores },
              { on := 3, ground := Ground.textOnly Departure.lateStores },
              { on := 4, ground := Ground.textOnly Departure.lateStores },
              { on := 5, ground := Ground.textOnly Departure.lateStores },
              { on := 6, ground := Ground.textOnly Departure.lateStores },
              { on := 7, ground := Ground.textOnly Departure.lateStores },
              { on := 8, ground := Ground.textOnly Departure.lateStores },
              { on := 9, ground := Ground.textOnly Departure.lateStores }],
          guard := none },
        { dst := some 76, op := Op.fieldAddr 38 (Operand.tmp 6) 4, type := 0, pos := "paths.go:267",
          after :=
            #[{ on := 0, ground := Ground.phase }, { on := 1, ground := Ground.phase },
              { on := 2, ground := Ground.phase }, { on := 3, ground := Ground.phase },
              { on := 4, ground := Ground.textOnly Departure.lateStores },
              { on := 5, ground := Ground.textOnly Departure.lateStores },
              { on := 6, ground := Ground.textOnly Departure.lateStores },
              { on := 7, ground := Ground.textOnly Departure.lateStores },
              { on := 8, ground := Ground.textOnly Departure.lateStores },
              { on := 9, ground := Ground.textOnly Departure.lateStores }, { on := 10, ground := Ground.phase },
              { on := 11, ground := Ground.phase }],
          guard := none },
        { dst := none, op := Op.store 3 (Operand.tmp 76) (Operand.tmp 68), type := 0, pos := "paths.go:267",
          after :=
            #[{ on := 12, ground := Ground.data }, { on := 3, ground := Ground.data },
              { on := 11, ground := Ground.chain }, { on := 0, ground := Ground.phase },
              { on := 1, ground := Ground.phase }, { on := 2, ground := Ground.phase },
              { on := 3, ground := Ground.phase }, { on := 4, ground := Ground.textOnly Departure.lateStores },
              { on := 5, ground := Ground.textOnly Departure.lateStores },
              { on := 6, ground := Ground.textOnly Departure.lateStores },
              { on := 7, ground := Ground.textOnly Departure.lateStores },
              { on := 8, ground := Ground.textOnly Departure.lateStores },
              { on := 9, ground := Ground.textOnly Departure.lateStores }, { on := 10, ground := Ground.phase },
              { on := 11, ground := Ground.phase }],
          guard := none },
        { dst := some 77, op := Op.fieldAddr 38 (Operand.tmp 6) 1, type := 0, pos := "paths.go:267",
          after :=
            #[{ on := 0, ground := Ground.phase }, { on := 1, ground := Ground.phase },
              { on := 2, ground := Ground.phase }, { on := 3, ground := Ground.phase },
              { on := 4, ground := Ground.phase }, { on := 5, ground := Ground.phase },
              { on := 6, ground := Ground.textOnly Departure.lateStores },
              { on := 7, ground := Ground.textOnly Departure.lateStores },
              { on := 8, ground := Ground.textOnly Departure.lateStores },
              { on := 9, ground := Ground.textOnly Departure.lateStores }, { on := 10, ground := Ground.phase },
              { on := 11, ground := Ground.phase }, { on := 12, ground := Ground.phase },
              { on := 13, ground := Ground.phase }],
          guard := none },
        { dst := none, op := Op.store 3 (Operand.tmp 77) (Operand.tmp 70), type := 0, pos := "paths.go:267",
          after :=
            #[{ on := 14, ground := Ground.data }, { on := 5, ground := Ground.data },
              { on := 13, ground := Ground.chain }, { on := 0, ground := Ground.phase },
              { on := 1, ground := Ground.phase }, { on := 2, ground := Ground.phase },
              { on := 3, ground := Ground.phase }, { on := 4, ground := Ground.phase },
              { on := 5, ground := Ground.phase }, { on := 6, ground := Ground.textOnly Departure.lateStores },
              { on := 7, ground := Ground.textOnly Departure.lateStores },
              { on := 8, ground := Ground.textOnly Departure.lateStores },
              { on := 9, ground := Ground.textOnly Departure.lateStores }, { on := 10, ground := Ground.phase },
              { on := 11, ground := Ground.phase }, { on := 12, ground := Ground.phase },
              { on := 13, ground := Ground.phase }],
          guard := none },
        { dst := some 78, op := Op.fieldAddr 38 (Operand.tmp 6) 2, type := 0, pos := "paths.go:267",
          after :=
            #[{ on := 0, ground := Ground.phase }, { on := 1, ground := Ground.phase },
              { on := 2, ground := Ground.phase }, { on := 3, ground := Ground.phase },
              { on := 4, ground := Ground.phase }, { on := 5, ground := Ground.phase },
              { on := 6, ground := Ground.phase }, { on := 7, ground := Ground.phase },
              { on := 8, ground := Ground.textOnly Departure.lateStores },
              { on := 9, ground := Ground.textOnly Departure.lateStores }, { on := 10, ground := Ground.phase },
              { on := 11, ground := Ground.phase }, { on := 12, ground := Ground.phase },
              { on := 13, ground := Ground.phase }, { on := 14, ground := Ground.phase },
              { on := 15, ground := Ground.phase }],
          guard := none },
        { dst := none, op := Op.store 3 (Operand.tmp 78) (Operand.tmp 72), type := 0, pos := "paths.go:267",
          after :=
            #[{ on := 16, ground := Ground.data }, { on := 7, ground := Ground.data },
              { on := 15, ground := Ground.chain }, { on := 0, ground := Ground.phase },
              { on := 1, ground := Ground.phase }, { on := 2, ground := Ground.phase },
              { on := 3, ground := Ground.phase }, { on := 4, ground := Ground.phase },
              { on := 5, ground := Ground.phase }, { on := 6, ground := Ground.phase },
              { on := 7, ground := Ground.phase }, { on := 8, ground := Ground.textOnly Departure.lateStores },
              { on := 9, ground := Ground.textOnly Departure.lateStores }, { on := 10, ground := Ground.phase },
              { on := 11, ground := Ground.phase }, { on := 12, ground := Ground.phase },
              { on := 13, ground := Ground.phase }, { on := 14, ground := Ground.phase },
              { on := 15, ground := Ground.phase }],
          guard := none },
        { dst := some 79, op := Op.fieldAddr 38 (Operand.tmp 6) 5, type := 0, pos := "paths.go:267",
          after :=
            #[{ on := 0, ground := Ground.phase }, { on := 1, ground := Ground.phase },
              { on := 2, ground := Ground.phase }, { on := 3, ground := Ground.phase },
              { on := 4, ground := Ground.phase }, { on := 5, ground := Ground.phase },
              { on := 6, ground := Ground.phase }, { on := 7, ground := Ground.phase },
              { on := 8, ground := Ground.phase }, { on := 9, ground := Ground.phase },
              { on := 10, ground := Ground.phase }, { on := 11, ground := Ground.phase },
              { on := 12, ground := Ground.phase }, { on := 13, ground := Ground.phase },
              { on := 14, ground := Ground.phase }, { on := 15, ground := Ground.phase },
              { on := 16, ground := Ground.phase }, { on := 17, ground := Ground.phase }],
          guard := none },
        { dst := none, op := Op.store 3 (Operand.tmp 79) (Operand.tmp 74), type := 0, pos := "paths.go:267",
          after :=
            #[{ on := 18, ground := Ground.data }, { on := 9, ground := Ground.data },
              { on := 17, ground := Ground.chain }, { on := 0, ground := Ground.phase },
              { on := 1, ground := Ground.phase }, { on := 2, ground := Ground.phase },
              { on := 3, ground := Ground.phase }, { on := 4, ground := Ground.phase },
              { on := 5, ground := Ground.phase }, { on := 6, ground := Ground.phase },
              { on := 7, ground := Ground.phase }, { on := 8, ground := Ground.phase },
              { on := 9, ground := Ground.phase }, { on := 10, ground := Ground.phase },
              { on := 11, ground := Ground.phase }, { on := 12, ground := Ground.phase },
              { on := 13, ground := Ground.phase }, { on := 14, ground := Ground.phase },
              { on := 15, ground := Ground.phase }, { on := 16, ground := Ground.phase },
              { on := 17, ground := Ground.phase }],
          guard := none }]
      true) Q ⟨#[u0, u1, u2, u3, u4, u5, .pointer (some ⟨B, 0, none⟩), u7, .pointer (some ⟨B + 1, 0, none⟩), u9, u10, u11, u12, u13, u14, u15, u16, u17, u18, u19, u20, u21, u22, u23, u24, u25, u26, u27, u28, u29, u30, u31, u32, u33, u34, u35, u36, u37, u38, u39, u40, u41, u42, u43, u44, u45, u46, u47, u48, u49, u50, u51, u52, u53, u54, u55, u56, u57, u58, u59, u60, u61, u62, u63, u64, u65, u66, u67, u68, u69, u70, u71, u72, u73, u74, u75, u76, u77, u78, u79, u80, u81, u82, u83, u84, u85, u86, u87, u88, u89, u90, u91, u92, u93, u94, u95, u96, u97, u98, u99, u100, u101, u102, u103, u104, u105, u106, u107, u108, u109, u110, u111, u112], []⟩ w := by
  refine Iv.wp_region_inv (n := 113) (TI [some 65, some 66, some 67, some 68, some 69, some 70, some 71, some 72, some 73, some 74, some 75, none, some 76, none, some 77, none, some 78, none, some 79, none]
      [.pointer (some ⟨B + 1, 0, none⟩), .int .i64 z0, .pointer (some ⟨B + 1, 1, none⟩), .int .i64 z1, .pointer (some ⟨B + 1, 2, none⟩), .int .i64 z2, .pointer (some ⟨B + 1, 3, none⟩), .int .i64 z3, .pointer (some ⟨B + 1, 4, none⟩), .int .i64 z4, .pointer (some ⟨B, 3, none⟩), undef, .pointer (some ⟨B, 4, none⟩), undef, .pointer (some ⟨B, 1, none⟩), undef, .pointer (some ⟨B, 2, none⟩), undef, .pointer (some ⟨B, 5, none⟩), undef]
      [(0, u0), (1, u1), (2, u2), (3, u3), (4, u4), (5, u5), (6, .pointer (some ⟨B, 0, none⟩)), (7, u7), (8, .pointer (some ⟨B + 1, 0, none⟩)), (9, u9), (10, u10), (11, u11), (12, u12), (13, u13), (14, u14), (15, u15), (16, u16), (17, u17), (18, u18), (19, u19), (20, u20), (21, u21), (22, u22), (23, u23), (24, u24), (25, u25), (26, u26), (27, u27), (28, u28), (29, u29), (30, u30), (31, u31), (32, u32), (33, u33), (34, u34), (35, u35), (36, u36), (37, u37), (38, u38), (39, u39), (40, u40), (41, u41), (42, u42), (43, u43), (44, u44), (45, u45), (46, u46), (47, u47), (48, u48), (49, u49), (50, u50), (51, u51), (52, u52), (53, u53), (54, u54), (55, u55), (56, u56), (57, u57), (58, u58), (59, u59), (60, u60), (61, u61), (62, u62), (63, u63), (64, u64), (80, u80), (81, u81), (82, u82), (83, u83), (84, u84), (85, u85), (86, u86), (87, u87), (88, u88), (89, u89), (90, u90), (91, u91), (92, u92), (93, u93), (94, u94), (95, u95), (96, u96), (97, u97), (98, u98), (99, u99), (100, u100), (101, u101), (102, u102), (103, u103), (104, u104), (105, u105), (106, u106), (107, u107), (108, u108), (109, u109), (110, u110), (111, u111), (112, u112)] (MQ B w z0 z1 z2 z3 z4)) _ (by kernel_rfl) (by kernel_rfl) (Is.start _ rfl) ?_ ?_ ?_
  · refine ⟨fun i d _ h => (by cases h), fun q hq => ?_, ⟨(Below.refl _ _).drew, hV.drew, hP.drew⟩⟩
    simp only [List.mem_cons, List.not_mem_nil, or_false] at hq
    rcases hq with rfl | rfl | rfl | rfl | rfl | rfl | rfl | rfl | rfl | rfl | rfl | rfl | rfl | rfl | rfl | rfl | rfl | rfl | rfl | rfl | rfl | rfl | rfl | rfl | rfl | rfl | rfl | rfl | rfl | rfl | rfl | rfl | rfl | rfl | rfl | rfl | rfl | rfl | rfl | rfl | rfl | rfl | rfl | rfl | rfl | rfl | rfl | rfl | rfl | rfl | rfl | rfl | rfl | rfl | rfl | rfl | rfl | rfl | rfl | rfl | rfl | rfl | rfl | rfl | rfl | rfl | rfl | rfl | rfl | rfl | rfl | rfl | rfl | rfl | rfl | rfl | rfl | rfl | rfl | rfl | rfl | rfl | rfl | rfl | rfl | rfl | rfl | rfl | rfl | rfl | rfl | rfl | rfl | rfl | rfl | rfl | rfl | rfl
    all_goals rfl
  · exact ⟨ti_val rfl rfl rfl (fun L w h => h.mark ⟨rfl, rfl, rfl, rfl, rfl⟩) rfl fun L f w hL hdep H => run_ixA0 (H.x (8, .pointer (some ⟨B + 1, 0, none⟩)) (by simp)) rfl,
      ti_val rfl rfl rfl (fun L w h => h.mark ⟨rfl, rfl, rfl, rfl, rfl⟩) rfl fun L f w hL hdep H => run_load_int (H.t 0 65 rfl (hdep ⟨0, .data⟩ (by simp) rfl)) (H.m.p.cell 0),
      ti_val rfl rfl rfl (fun L w h => h.mark ⟨rfl, rfl, rfl, rfl, rfl⟩) rfl fun L f w hL hdep H => run_ixA1 (H.x (8, .pointer (some ⟨B + 1, 0, none⟩)) (by simp)) rfl,
      ti_val rfl rfl rfl (fun L w h => h.mark ⟨rfl, rfl, rfl, rfl, rfl⟩) rfl fun L f w hL hdep H => run_load_int (H.t 2 67 rfl (hdep ⟨2, .data⟩ (by simp) rfl)) (H.m.p.cell 1),
      ti_val rfl rfl rfl (fun L w h => h.mark ⟨rfl, rfl, rfl, rfl, rfl⟩) rfl fun L f w hL hdep H => run_ixA2 (H.x (8, .pointer (some ⟨B + 1, 0, none⟩)) (by simp)) rfl,
      ti_val rfl rfl rfl (fun L w h => h.mark ⟨rfl, rfl, rfl, rfl, rfl⟩) rfl fun L f w hL hdep H => run_load_int (H.t 4 69 rfl (hdep ⟨4, .data⟩ (by simp) rfl)) (H.m.p.cell 2),
      ti_val rfl rfl rfl (fun L w h => h.mark ⟨rfl, rfl, rfl, rfl, rfl⟩) rfl fun L f w hL hdep H => run_ixA3 (H.x (8, .pointer (some ⟨B + 1, 0, none⟩)) (by simp)) rfl,
      ti_val rfl rfl rfl (fun L w h => h.mark ⟨rfl, rfl, rfl, rfl, rfl⟩) rfl fun L f w hL hdep H => run_load_int (H.t 6 71 rfl (hdep ⟨6, .data⟩ (by simp) rfl)) (H.m.p.cell 3),
      ti_val rfl rfl rfl (fun L w h => h.mark ⟨rfl, rfl, rfl, rfl, rfl⟩) rfl fun L f w hL hdep H => run_ixA4 (H.x (8, .pointer (some ⟨B + 1, 0, none⟩)) (by simp)) rfl,
      ti_val rfl rfl rfl (fun L w h => h.mark ⟨rfl, rfl, rfl, rfl, rfl⟩) rfl fun L f w hL hdep H => run_load_int (H.t 8 73 rfl (hdep ⟨8, .data⟩ (by simp) rfl)) (H.m.p.cell 4),
      ti_val rfl rfl rfl (fun L w h => h.mark ⟨rfl, rfl, rfl, rfl, rfl⟩) rfl fun L f w hL hdep H => run_fS3 (H.x (6, .pointer (some ⟨B, 0, none⟩)) (by simp)),
      ti_store rfl fun L f w hL hdep H => ⟨_, F2.run_storeInt (H.t 10 75 rfl (hdep ⟨10, .data⟩ (by simp) rfl)) (H.t 1 66 rfl (hdep ⟨1, .data⟩ (by simp) rfl)) H.m.m rfl, H.m.s11⟩,
      ti_val rfl rfl rfl (fun L w h => h.mark ⟨rfl, rfl, rfl, rfl, rfl⟩) rfl fun L f w hL hdep H => run_fS4 (H.x (6, .pointer (some ⟨B, 0, none⟩)) (by simp)),
      ti_store rfl fun L f w hL hdep H => ⟨_, F2.run_storeInt (H.t 12 76 rfl (hdep ⟨12, .data⟩ (by simp) rfl)) (H.t 3 68 rfl (hdep ⟨3, .data⟩ (by simp) rfl)) H.m.m rfl, H.m.s13⟩,
      ti_val rfl rfl rfl (fun L w h => h.mark ⟨rfl, rfl, rfl, rfl, rfl⟩) rfl fun L f w hL hdep H => run_fS1 (H.x (6, .pointer (some ⟨B, 0, none⟩)) (by simp)),
      ti_store rfl fun L f w hL hdep H => ⟨_, F2.run_storeInt (H.t 14 77 rfl (hdep ⟨14, .data⟩ (by simp) rfl)) (H.t 5 70 rfl (hdep ⟨5, .data⟩ (by simp) rfl)) H.m.m rfl, H.m.s15⟩,
      ti_val rfl rfl rfl (fun L w h => h.mark ⟨rfl, rfl, rfl, rfl, rfl⟩) rfl fun L f w hL hdep H => run_fS2 (H.x (6, .pointer (some ⟨B, 0, none⟩)) (by simp)),
      ti_store rfl fun L f w hL hdep H => ⟨_, F2.run_storeInt (H.t 16 78 rfl (hdep ⟨16, .data⟩ (by simp) rfl)) (H.t 7 72 rfl (hdep ⟨7, .data⟩ (by simp) rfl)) H.m.m rfl, H.m.s17⟩,
      ti_val rfl rfl rfl (fun L w h => h.mark ⟨rfl, rfl, rfl, rfl, rfl⟩) rfl fun L f w hL hdep H => run_fS5 (H.x (6, .pointer (some ⟨B, 0, none⟩)) (by simp)),
      ti_store rfl fun L f w hL hdep H => ⟨_, F2.run_storeInt (H.t 18 79 rfl (hdep ⟨18, .data⟩ (by simp) rfl)) (H.t 9 74 rfl (hdep ⟨9, .data⟩ (by simp) rfl)) H.m.m rfl, H.m.s19⟩, trivial⟩
  intro L f act w' hall H ha
  have k0 : f 0 = u0 := H.x (0, u0) (by simp)
  have k1 : f 1 = u1 := H.x (1, u1) (by simp)
  have k2 : f 2 = u2 := H.x (2, u2) (by simp)
  have k3 : f 3 = u3 := H.x (3, u3) (by simp)
  have k4 : f 4 = u4 := H.x (4, u4) (by simp)
  have k5 : f 5 = u5 := H.x (5, u5) (by simp)
  have k6 : f 6 = .pointer (some ⟨B, 0, none⟩) := H.x (6, .pointer (some ⟨B, 0, none⟩)) (by simp)
  have k7 : f 7 = u7 := H.x (7, u7) (by simp)
  have k8 : f 8 = .pointer (some ⟨B + 1, 0, none⟩) := H.x (8, .pointer (some ⟨B + 1, 0, none⟩)) (by simp)
  have k9 : f 9 = u9 := H.x (9, u9) (by simp)
  have k10 : f 10 = u10 := H.x (10, u10) (by simp)
  have k11 : f 11 = u11 := H.x (11, u11) (by simp)
  have k12 : f 12 = u12 := H.x (12, u12) (by simp)
  have k13 : f 13 = u13 := H.x (13, u13) (by simp)
  have k14 : f 14 = u14 := H.x (14, u14) (by simp)
  have k15 : f 15 = u15 := H.x (15, u15) (by simp)
  have k16 : f 16 = u16 := H.x (16, u16) (by simp)
  have k17 : f 17 = u17 := H.x (17, u17) (by simp)
  have k18 : f 18 = u18 := H.x (18, u18) (by simp)
  have k19 : f 19 = u19 := H.x (19, u19) (by simp)
  have k20 : f 20 = u20 := H.x (20, u20) (by simp)
  have k21 : f 21 = u21 := H.x (21, u21) (by simp)
  have k22 : f 22 = u22 := H.x (22, u22) (by simp)
  have k23 : f 23 = u23 := H.x (23, u23) (by simp)
  have k24 : f 24 = u24 := H.x (24, u24) (by simp)
  have k25 : f 25 = u25 := H.x (25, u25) (by simp)
  have k26 : f 26 = u26 := H.x (26, u26) (by simp)
  have k27 : f 27 = u27 := H.x (27, u27) (by simp)
  have k28 : f 28 = u28 := H.x (28, u28) (by simp)
  have k29 : f 29 = u29 := H.x (29, u29) (by simp)
  have k30 : f 30 = u30 := H.x (30, u30) (by simp)
  have k31 : f 31 = u31 := H.x (31, u31) (by simp)
  have k32 : f 32 = u32 := H.x (32, u32) (by simp)
  have k33 : f 33 = u33 := H.x (33, u33) (by simp)
  have k34 : f 34 = u34 := H.x (34, u34) (by simp)
  have k35 : f 35 = u35 := H.x (35, u35) (by simp)
  have k36 : f 36 = u36 := H.x (36, u36) (by simp)
  have k37 : f 37 = u37 := H.x (37, u37) (by simp)
  have k38 : f 38 = u38 := H.x (38, u38) (by simp)
  have k39 : f 39 = u39 := H.x (39, u39) (by simp)
  have k40 : f 40 = u40 := H.x (40, u40) (by simp)
  have k41 : f 41 = u41 := H.x (41, u41) (by simp)
  have k42 : f 42 = u42 := H.x (42, u42) (by simp)
  have k43 : f 43 = u43 := H.x (43, u43) (by simp)
  have k44 : f 44 = u44 := H.x (44, u44) (by simp)
  have k45 : f 45 = u45 := H.x (45, u45) (by simp)
  have k46 : f 46 = u46 := H.x (46, u46) (by simp)
  have k47 : f 47 = u47 := H.x (47, u47) (by simp)
  have k48 : f 48 = u48 := H.x (48, u48) (by simp)
  have k49 : f 49 = u49 := H.x (49, u49) (by simp)
  have k50 : f 50 = u50 := H.x (50, u50) (by simp)
  have k51 : f 51 = u51 := H.x (51, u51) (by simp)
  have k52 : f 52 = u52 := H.x (52, u52) (by simp)
  have k53 : f 53 = u53 := H.x (53, u53) (by simp)
  have k54 : f 54 = u54 := H.x (54, u54) (by simp)
  have k55 : f 55 = u55 := H.x (55, u55) (by simp)
  have k56 : f 56 = u56 := H.x (56, u56) (by simp)
  have k57 : f 57 = u57 := H.x (57, u57) (by simp)
  have k58 : f 58 = u58 := H.x (58, u58) (by simp)
  have k59 : f 59 = u59 := H.x (59, u59) (by simp)
  have k60 : f 60 = u60 := H.x (60, u60) (by simp)
  have k61 : f 61 = u61 := H.x (61, u61) (by simp)
  have k62 : f 62 = u62 := H.x (62, u62) (by simp)
  have k63 : f 63 = u63 := H.x (63, u63) (by simp)
  have k64 : f 64 = u64 := H.x (64, u64) (by simp)
  have k65 : f 65 = .pointer (some ⟨B + 1, 0, none⟩) := H.t 0 65 rfl (hall 0 (by decide))
  have k66 : f 66 = .int .i64 z0 := H.t 1 66 rfl (hall 1 (by decide))
  have k67 : f 67 = .pointer (some ⟨B + 1, 1, none⟩) := H.t 2 67 rfl (hall 2 (by decide))
  have k68 : f 68 = .int .i64 z1 := H.t 3 68 rfl (hall 3 (by decide))
  have k69 : f 69 = .pointer (some ⟨B + 1, 2, none⟩) := H.t 4 69 rfl (hall 4 (by decide))
  have k70 : f 70 = .int .i64 z2 := H.t 5 70 rfl (hall 5 (by decide))
  have k71 : f 71 = .pointer (some ⟨B + 1, 3, none⟩) := H.t 6 71 rfl (hall 6 (by decide))
  have k72 : f 72 = .int .i64 z3 := H.t 7 72 rfl (hall 7 (by decide))
  have k73 : f 73 = .pointer (some ⟨B + 1, 4, none⟩) := H.t 8 73 rfl (hall 8 (by decide))
  have k74 : f 74 = .int .i64 z4 := H.t 9 74 rfl (hall 9 (by decide))
  have k75 : f 75 = .pointer (some ⟨B, 3, none⟩) := H.t 10 75 rfl (hall 10 (by decide))
  have k76 : f 76 = .pointer (some ⟨B, 4, none⟩) := H.t 12 76 rfl (hall 12 (by decide))
  have k77 : f 77 = .pointer (some ⟨B, 1, none⟩) := H.t 14 77 rfl (hall 14 (by decide))
  have k78 : f 78 = .pointer (some ⟨B, 2, none⟩) := H.t 16 78 rfl (hall 16 (by decide))
  have k79 : f 79 = .pointer (some ⟨B, 5, none⟩) := H.t 18 79 rfl (hall 18 (by decide))
  have k80 : f 80 = u80 := H.x (80, u80) (by simp)
  have k81 : f 81 = u81 := H.x (81, u81) (by simp)
  have k82 : f 82 = u82 := H.x (82, u82) (by simp)
  have k83 : f 83 = u83 := H.x (83, u83) (by simp)
  have k84 : f 84 = u84 := H.x (84, u84) (by simp)
  have k85 : f 85 = u85 := H.x (85, u85) (by simp)
  have k86 : f 86 = u86 := H.x (86, u86) (by simp)
  have k87 : f 87 = u87 := H.x (87, u87) (by simp)
  have k88 : f 88 = u88 := H.x (88, u88) (by simp)
  have k89 : f 89 = u89 := H.x (89, u89) (by simp)
  have k90 : f 90 = u90 := H.x (90, u90) (by simp)
  have k91 : f 91 = u91 := H.x (91, u91) (by simp)
  have k92 : f 92 = u92 := H.x (92, u92) (by simp)
  have k93 : f 93 = u93 := H.x (93, u93) (by simp)
  have k94 : f 94 = u94 := H.x (94, u94) (by simp)
  have k95 : f 95 = u95 := H.x (95, u95) (by simp)
  have k96 : f 96 = u96 := H.x (96, u96) (by simp)
  have k97 : f 97 = u97 := H.x (97, u97) (by simp)
  have k98 : f 98 = u98 := H.x (98, u98) (by simp)
  have k99 : f 99 = u99 := H.x (99, u99) (by simp)
  have k100 : f 100 = u100 := H.x (100, u100) (by simp)
  have k101 : f 101 = u101 := H.x (101, u101) (by simp)
  have k102 : f 102 = u102 := H.x (102, u102) (by simp)
  have k103 : f 103 = u103 := H.x (103, u103) (by simp)
  have k104 : f 104 = u104 := H.x (104, u104) (by simp)
  have k105 : f 105 = u105 := H.x (105, u105) (by simp)
  have k106 : f 106 = u106 := H.x (106, u106) (by simp)
  have k107 : f 107 = u107 := H.x (107, u107) (by simp)
  have k108 : f 108 = u108 := H.x (108, u108) (by simp)
  have k109 : f 109 = u109 := H.x (109, u109) (by simp)
  have k110 : f 110 = u110 := H.x (110, u110) (by simp)
  have k111 : f 111 = u111 := H.x (111, u111) (by simp)
  have k112 : f 112 = u112 := H.x (112, u112) (by simp)
  have hw := ha.whole
  rw [show ((List.range 113).map f).toArray = #[f 0, f 1, f 2, f 3, f 4, f 5, f 6, f 7, f 8, f 9, f 10, f 11, f 12, f 13, f 14, f 15, f 16, f 17, f 18, f 19, f 20, f 21, f 22, f 23, f 24, f 25, f 26, f 27, f 28, f 29, f 30, f 31, f 32, f 33, f 34, f 35, f 36, f 37, f 38, f 39, f 40, f 41, f 42, f 43, f 44, f 45, f 46, f 47, f 48, f 49, f 50, f 51, f 52, f 53, f 54, f 55, f 56, f 57, f 58, f 59, f 60, f 61, f 62, f 63, f 64, f 65, f 66, f 67, f 68, f 69, f 70, f 71, f 72, f 73, f 74, f 75, f 76, f 77, f 78, f 79, f 80, f 81, f 82, f 83, f 84, f 85, f 86, f 87, f 88, f 89, f 90, f 91, f 92, f 93, f 94, f 95, f 96, f 97, f 98, f 99, f 100, f 101, f 102, f 103, f 104, f 105, f 106, f 107, f 108, f 109, f 110, f 111, f 112] from rfl] at hw
  rw [k0, k1, k2, k3, k4, k5, k6, k7, k8, k9, k10, k11, k12, k13, k14, k15, k16, k17, k18, k19, k20, k21, k22, k23, k24, k25, k26, k27, k28, k29, k30, k31, k32, k33, k34, k35, k36, k37, k38, k39, k40, k41, k42, k43, k44, k45, k46, k47, k48, k49, k50, k51, k52, k53, k54, k55, k56, k57, k58, k59, k60, k61, k62, k63, k64, k65, k66, k67, k68, k69, k70, k71, k72, k73, k74, k75, k76, k77, k78, k79, k80, k81, k82, k83, k84, k85, k86, k87, k88, k89, k90, k91, k92, k93, k94, k95, k96, k97, k98, k99, k100, k101, k102, k103, k104, k105, k106, k107, k108, k109, k110, k111, k112] at hw
  rw [hw]
  refine k _ ?_ H.m.b
  have hm := H.m.m
  rw [hall 11 (by decide), hall 13 (by decide), hall 15 (by decide), hall 17 (by decide), hall 19 (by decide)] at hm
  exact hm
end Go.Proofs.YtijkoaggcmgjiabDoor
