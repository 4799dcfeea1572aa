/- keep1's cut, pattern and dashes. -/
import Derived.Test.YtjflgblplmgjlaaDok
import Derived.Test.YtjflgblplmgjlaaEqp
namespace Go.Proofs.Ytjflgblplmgjlaa
open Go Go.RowKit
set_option linter.unusedVariables false
set_option linter.unusedSimpArgs false

theorem kcut_in (x lo hi : Int) (w : World) (h : lo ≤ hi) (hn : hi - lo < 4611686018427387904) (hl : -4611686018427387904 ≤ lo) (hh : hi ≤ 4611686018427387904) :
    Calls Try.prog 10 #[.int .i64 x, .int .i64 lo, .int .i64 hi] w fun e w' => ∃ z, lo ≤ z ∧ z ≤ hi ∧ e = .returned (.int .i64 z) ∧ w = w' := by
  refine (kcut_val x lo hi w h hn hl hh).mono ?_
  rintro e w' ⟨rfl, rfl⟩
  have t3 := Int.emod_nonneg (x.tmod (hi - lo + 1)) (show hi - lo + 1 ≠ 0 by omega)
  have t4 := Int.emod_lt_of_pos (x.tmod (hi - lo + 1)) (show 0 < hi - lo + 1 by omega)
  exact ⟨_, by omega, by omega, rfl, rfl⟩

/-! ### rows of numbers that a call owns -/
theorem infoInt : (Try.prog.info? 3).map (fun i => (i.zero, i.size, i.bytes)) = some (some (.int .i64 0), 1, 8) := by kernel_rfl
def OwnI (w : World) (B : Nat) (v : Value) (zs : List Int) : Prop := w.ownsRow B 3 1 v zs.length (zs.map (Value.int .i64))
theorem OwnI.nil (w : World) (B : Nat) : OwnI w B (.slice none 0 0) [] := World.ownsRow_nil w B _ 1
theorem OwnI.lit1 (w : World) (z : Int) : OwnI (w.alloc (.cells #[.int .i64 z] 3)) w.heap.size (.slice (some ⟨w.heap.size, 0, none⟩) 1 1) [z] := World.ownsRow_lit w #[.int .i64 z] 1 (Nat.le_refl _) (by decide) rfl
theorem OwnI.next {w w' : World} {B : Nat} {v : Value} {zs : List Int} (h : OwnI w B v zs) (hb : Below w.heap.size w w') : OwnI w' B v zs := own_next h hb
theorem OwnI.mono {w : World} {B B' : Nat} {v : Value} {xs : List Int} (h : OwnI w B v xs) (hb : B' ≤ B) : OwnI w B' v xs := by
  refine ⟨h.1, ?_⟩
  rcases h.2 with h1 | ⟨g, cap, cur, hv, hB, hh, hr⟩
  · exact .inl h1
  · exact .inr ⟨g, cap, cur, hv, Nat.le_trans hb hB, hh, hr⟩
theorem OwnI.is {w : World} {B : Nat} {v : Value} {zs : List Int} (h : OwnI w B v zs) : ∃ A c, v = .slice A zs.length c ∧ zs.length ≤ c ∧ c ≤ maxLen ∧ IntsA w A zs := by
  rcases h.2 with ⟨h1, h2⟩ | ⟨g, cap, cur, h1, h3, h4, h5, h6, h7, h8⟩
  · have : zs = [] := List.eq_nil_of_length_eq_zero h2
    subst this
    exact ⟨none, 0, h1, Nat.le_refl _, Nat.zero_le _, IntsA.nil _ _⟩
  · refine ⟨some ⟨g, 0, none⟩, cap, h1, h5, h6, fun _ => ⟨_, rfl, (Array.getElem?_eq_some_iff.1 h4).1, fun i z hi => ?_⟩⟩
    have := World.ownsRow.cellAt (h1 ▸ h) i (by have := (List.getElem?_eq_some_iff.1 hi).1; omega)
    rw [adr0, this, List.getElem?_map, hi]
    rfl
theorem OwnI.ge {w : World} {B : Nat} {v : Value} {xs : List Int} (h : OwnI w B v xs) : ∀ k, v.ownBlock = some k → B ≤ k ∧ k < w.heap.size := World.ownsRow.lt h
theorem append_int {w : World} {B : Nat} {v : Value} {zs : List Int} {z : Int} {ty : TypeId} (hB : B ≤ w.heap.size) (hown : OwnI w B v zs) (hl : zs.length ≤ 5000000000) :
    ∃ v' w', (Builtin.append_ #[23, 23] ty #[v, .slice (some ⟨w.heap.size, 0, none⟩) 1 1]).run Try.prog (w.alloc (.cells #[.int .i64 z] 3)) = .ok v' w' ∧ OwnI w' B v' (zs ++ [z]) ∧ Gr v v' w w' := by
  obtain ⟨i0, hi, hz0, hz1, hz2⟩ := info_parts infoInt
  have hown1 := World.ownsRow.alloc hown (.cells #[.int .i64 z] 3)
  obtain ⟨g, c, w', h1, h2, h3, h4, h5⟩ := run_append_lies (P := Try.prog) (w := w.alloc (.cells #[.int .i64 z] 3)) 23 ty B 3 i0 _ 1 8 Try.underlying23 hi hz0 hz1 hz2 rfl (by decide) v zs.length (zs.map (Value.int .i64)) hown1
    ⟨w.heap.size, 0, none⟩ 1 1 [.int .i64 z] rfl (fun j u hu => by
      have hV := (Var.new w #[.int .i64 z] 3 _ rfl).cell j
      rw [adr0, hV]
      simpa using hu) (fun u hu => by
      simp only [List.mem_cons, List.not_mem_nil, or_false] at hu
      rcases hu with rfl; rfl) (by decide) (by unfold maxLen; omega) (by omega) (by simp; omega) _ rfl
  refine ⟨_, w', h1, ?_, ?_⟩
  · unfold OwnI
    rw [List.map_append, List.length_append]
    simpa using h2
  · refine (Gr.of_below (v := v) ((Below.refl w.heap.size w).alloc (Nat.le_refl _) (.cells #[.int .i64 z] 3))).trans ⟨h3, fun k hk => ?_⟩
    rcases h4 with h4 | h4
    · refine .inl (h4.trans ?_)
      simpa [Value.ownBlock] using hk
    · refine .inr ?_
      have : g = k := by simpa [Value.ownBlock] using hk
      omega
theorem wpList_append_I {ops : Array Oper} {rest : List Oper} {o : Oper} {a : Act} {Q : Exit → Act → World → Prop} {w : World} {B : Nat} {v : Value} {xs : List Int} {s : Int} (hgd : o.guard = none) (y x : Operand)
    (ho : o.op = .call { callee := .builtin .append, args := #[y, x], argTypes := #[23, 23] }) (hB : B ≤ w.heap.size) (hs : a.eval y = v) (hx : a.eval x = .slice (some ⟨w.heap.size, 0, none⟩) 1 1)
    (hown : OwnI w B v xs) (hl : xs.length ≤ 5000000000)
    (k : ∀ v' w', OwnI w' B v' (xs ++ [s]) → Gr v v' w w' → wpList Try.prog ops Q rest (a.put o.dst v') w') : wpList Try.prog ops Q (o :: rest) a (w.alloc (.cells #[.int .i64 s] 3)) := by
  obtain ⟨v', w', h1, h2, h3⟩ := append_int (ty := o.type) (z := s) hB hown hl
  refine wpList_plain hgd fun K hK' => ?_
  simp [Oper.wp, execOp, ho, resolve, invoke, builtin, hs, hx, h1, Result.andThen]
  exact hK' _ _ (k v' w' h2 h3)

/-- A pattern of the laws. -/
def okK (lo hi : Int) (zs : List Int) : Prop := (∀ x ∈ zs, lo ≤ x ∧ x ≤ hi) ∧ 1 ≤ zs.length ∧ zs.length ≤ 6
set_option maxHeartbeats 4000000 in
theorem kpattern_any (A : Option Addr) (zs : List Int) (n c : Nat) (w : World) (hn : n = zs.length) (hl : n ≤ maxLen) (hs : IntsA w A zs) :
    Calls Try.prog 8 #[.slice A n c] w fun e w' => (∃ A' c' qs, e = .returned (.slice A' qs.length c') ∧ qs.length ≤ c' ∧ c' ≤ maxLen ∧ IntsA w' A' qs ∧ okK 3 50 qs) ∧ Below w.heap.size w w' := by
  have HS := hid hs
  have HN := hid hn
  unfold maxLen at hl
  clear hs hn
  go_enter Try.func8, Try.ntmps8
  go_wp2_with fail
  (with_reducible refine (kcut_in (n : Int) 3 50 _ (by omega) (by omega) (by omega) (by omega)).mono ?_); rintro e w1 ⟨z, hz1, hz2, rfl, rfl⟩
  have HO := hid (OwnI.lit1 w z)
  have HB := hid (below_alloc (Below.refl w.heap.size w) (.cells #[.int .i64 z] 3))
  have HZ := hid (show okK 3 50 [z] from ⟨fun x hx => by rw [List.mem_singleton.1 hx]; exact ⟨hz1, hz2⟩, by simp, by simp⟩)
  clear hz1 hz2
  go_wp2_with fail
  go_loopw [3, 4] (fun s3 s4 wr => ∃ (i : Nat) (v : Value) (qs : List Int), v = s3 ∧ s4 = .int .i64 i ∧ i ≤ n ∧ i ≤ 5 ∧ Hid (OwnI wr w.heap.size v qs ∧ okK 3 50 qs ∧ qs.length = i + 1 ∧ Below w.heap.size w wr)) (fun _ s4 _ => 5 - (intOf s4).toNat)
  case atStart => exact ⟨0, _, [z], rfl, rfl, Nat.zero_le _, Nat.zero_le _, hid ⟨HO.out, HZ.out, rfl, HB.out⟩⟩
  case round =>
    clear HO HB HZ
    obtain ⟨i, v, qs, rfl, rfl, hi1, hi2, HR⟩ := hrel
    have fin : (∃ A' c' qs', (Ending.returned v) = .returned (.slice A' qs'.length c') ∧ qs'.length ≤ c' ∧ c' ≤ maxLen ∧ IntsA wr A' qs' ∧ okK 3 50 qs') ∧ Below w.heap.size w wr := by
      obtain ⟨A', c', h1, h2, h3, h4⟩ := HR.out.1.is
      exact ⟨⟨A', c', qs, by rw [h1], h2, h3, h4, HR.out.2.1⟩, HR.out.2.2.2⟩
    have HFIN := hid fin
    clear fin
    by_cases hlt : i < n
    · have hlt' : (i : Int) < (n : Int) := by omega
      by_cases h5 : i < 5
      · have hil : i < zs.length := by rw [← HN.out]; exact hlt
        obtain ⟨a, rfl, hal, hc⟩ := (HS.out.next HR.out.2.2.2).at_ hil
        generalize zs[i] = x at hc
        clear hal hil
        have HBW := hid (show w.heap.size ≤ wr.heap.size from HR.out.2.2.2.size)
        have HLN := hid (show qs.length ≤ 5000000000 by have := HR.out.2.2.1; omega)
        go_wp2_with fail
        (with_reducible refine (kcut_in x 3 50 _ (by omega) (by omega) (by omega) (by omega)).mono ?_); rintro e w1 ⟨z2, hz1, hz2, rfl, rfl⟩
        have HZ2 := hid (show 3 ≤ z2 ∧ z2 ≤ 50 from ⟨hz1, hz2⟩)
        clear hc hz1 hz2
        go_wp2_with (at_builtin; refine wpList_append_I (B := w.heap.size) (s := z2) rfl _ _ rfl HBW.out rfl rfl HR.out.1 HLN.out ?_)
        intro v' w' ho hg
        have HR' := hid (show OwnI w' w.heap.size v' (qs ++ [z2]) ∧ okK 3 50 (qs ++ [z2]) ∧ (qs ++ [z2]).length = i + 1 + 1 ∧ Below w.heap.size w w' from by
          refine ⟨ho, ⟨fun y hy => ?_, by simp, by rw [List.length_append]; have := HR.out.2.2.1; simp; omega⟩, by rw [List.length_append, HR.out.2.2.1]; rfl, HR.out.2.2.2.trans (hg.below HBW.out fun k hk => (HR.out.1.ge k hk).1)⟩
          rcases List.mem_append.1 hy with h | h
          · exact HR.out.2.1.1 y h
          · rw [List.mem_singleton.1 h]; exact HZ2.out)
        clear ho hg HFIN
        go_wp2_with fail
        go_roundw
        case rel => exact ⟨i + 1, v', qs ++ [z2], rfl, by go_num, by omega, by omega, HR'⟩
        case measure => simp [intOf]; omega
      · have h5' : ¬ (i : Int) < 5 := by omega
        go_wp2_with fail
        go_ret
        exact HFIN.out
    · have hlt' : ¬ (i : Int) < (n : Int) := by omega
      go_wp2_with fail
      go_ret
      exact HFIN.out

/-! ### the guard -/
abbrev gps : List P2 := [⟨0, 0⟩, ⟨10, 0⟩]
abbrev gpat : List Int := [4, 2]
theorem g_lchk : lchk [⟨gps, false⟩] = 0 := by decide +kernel
theorem g_pchk : pchk gpat 1 = 0 := by decide +kernel
theorem g_len : (spD gps false gpat 1).length = 2 := by decide +kernel
theorem g_dash : dashL (walkP gps false) (spD gps false gpat 1) (spD gps false gpat 1).length = [⟨[⟨0, 0⟩, ⟨3, 0⟩], false⟩, ⟨[⟨5, 0⟩, ⟨9, 0⟩], false⟩] := by kernel_rfl
theorem ints2 {w : World} {b : Nat} {x y : Int} {t : TypeId} (h : Var w b #[.int .i64 x, .int .i64 y] t) : IntsA w (some ⟨b, 0, none⟩) [x, y] := fun _ => by
  refine ⟨_, rfl, h.lt, fun i z hi => ?_⟩
  rw [adr0, h.cell]
  match i, hi with
  | 0, hi => cases hi; rfl
  | 1, hi => cases hi; rfl
theorem pts2 {w : World} {b : Nat} {p q : P2} {t : TypeId} (h : Var w b #[.int .i64 p.x, .int .i64 p.y, .int .i64 q.x, .int .i64 q.y] t) : Pts w (some ⟨b, 0, none⟩) [p, q] := Var.pts (ss := [p, q]) h
theorem gdash_any (w : World) (b1 b2 : Nat) (h1 : Var w b1 #[.int .i64 0, .int .i64 0, .int .i64 10, .int .i64 0] 37) (h2 : Var w b2 #[.int .i64 4, .int .i64 2] 3) :
    Calls Try.prog 11 #[.agg #[.slice (some ⟨b1, 0, none⟩) 2 2, .bool false], .slice (some ⟨b2, 0, none⟩) 2 2, .int .i64 1] w fun e w' =>
      ∃ A c e0 e1, e = .returned (.tuple #[.slice A 2 c, .int .i64 0]) ∧ LnsE w' A [e0, e1] ∧ e0.ps = [⟨0, 0⟩, ⟨3, 0⟩] ∧ e1.ps = [⟨5, 0⟩, ⟨9, 0⟩] ∧ Below w.heap.size w w' := by
  refine (dash_ok _ _ gps gpat 2 2 2 2 false 1 w rfl (by omega) (by decide) (pts2 (p := ⟨0, 0⟩) (q := ⟨10, 0⟩) h1) g_lchk rfl (by decide) (ints2 h2) g_pchk).mono ?_
  rintro e w' ⟨⟨-, A, c, es, rfl, hL, he⟩ | ⟨h, -⟩, hb⟩
  · rw [g_dash] at he
    rcases es with _ | ⟨e0, _ | ⟨e1, _ | ⟨e2, r⟩⟩⟩
    · exact absurd (congrArg List.length he) (by simp)
    · exact absurd (congrArg List.length he) (by simp)
    · simp only [List.map_cons, List.map_nil, List.cons.injEq, and_true] at he
      exact ⟨A, c, e0, e1, rfl, hL, congrArg Ln.ps he.1, congrArg Ln.ps he.2, hb⟩
    · exact absurd (congrArg List.length he) (by simp)
  · rw [g_len] at h
    omega
end Go.Proofs.Ytjflgblplmgjlaa
