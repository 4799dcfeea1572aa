/- Rows of ints that a call owns; a number put into a sorted one. -/
import Derived.Test.YtijkoaggcmgjiaaOwn
import Derived.Laws.CopyRow
namespace Go.Proofs.Ytijkoaggcmgjiaa
open Go Go.RowKit
set_option linter.unusedVariables false

abbrev ints (zs : List Int) : List Value := zs.map (Value.int .i64)
def OwnI (w : World) (B : Nat) (v : Value) (zs : List Int) : Prop := w.ownsRow B 3 1 v zs.length (ints zs)
theorem OwnI.nil (w : World) (B : Nat) : OwnI w B (.slice none 0 0) [] := World.ownsRow_nil w B _ 1
theorem OwnI.next {w w' : World} {B : Nat} {v : Value} {xs : List Int} (h : OwnI w B v xs) (hb : Below w.heap.size w w') : OwnI w' B v xs := own_next h hb
theorem OwnI.ge {w : World} {B : Nat} {v : Value} {xs : List Int} (h : OwnI w B v xs) : ∀ k, v.ownBlock = some k → B ≤ k ∧ k < w.heap.size := World.ownsRow.lt h
theorem OwnI.keep {w w' : World} {B : Nat} {v : Value} {xs : List Int} (h : OwnI w B v xs) (hk : ∀ k, v.ownBlock = some k → w'.heap[k]? = w.heap[k]?) : OwnI w' B v xs := by
  refine ⟨h.1, ?_⟩
  rcases h.2 with h1 | ⟨g, cap, cur, hv, hB, hh, hr⟩
  · exact .inl h1
  · exact .inr ⟨g, cap, cur, hv, hB, (hk g (by rw [hv]; rfl)).trans hh, hr⟩
/-- Just a row of ints. -/
def Ints (w : World) (A : Option Addr) (zs : List Int) : Prop := zs ≠ [] → ∃ g, A = some ⟨g, 0, none⟩ ∧ g < w.heap.size ∧ ∀ i z, zs[i]? = some z → w.cell? ⟨g, i, none⟩ = some (.int .i64 z)
theorem Ints.next {w w' : World} {A : Option Addr} {zs : List Int} (h : Ints w A zs) (hb : Below w.heap.size w w') : Ints w' A zs := fun hn => by
  obtain ⟨g, e, hl, hc⟩ := h hn
  exact ⟨g, e, Nat.lt_of_lt_of_le hl hb.size, fun i z hz => (hb.cell (p := ⟨g, i, none⟩) hl).trans (hc i z hz)⟩
theorem addr0 (g j : Nat) : (⟨g, 0, none⟩ : Addr).add j = ⟨g, j, none⟩ := by unfold Addr.add; split <;> simp_all
theorem OwnI.is {w : World} {B : Nat} {v : Value} {zs : List Int} (h : OwnI w B v zs) : ∃ A c, v = .slice A zs.length c ∧ zs.length ≤ c ∧ c ≤ maxLen ∧ Ints w A zs := by
  rcases h.2 with ⟨rfl, h0⟩ | ⟨g, cap, cur, rfl, hB, hg, hnc, hcm, hcs, htake⟩
  · rw [h0]
    exact ⟨none, 0, rfl, Nat.le_refl _, Nat.zero_le _, fun hn => absurd (List.eq_nil_of_length_eq_zero h0) hn⟩
  · refine ⟨some ⟨g, 0, none⟩, cap, rfl, hnc, hcm, fun _ => ⟨g, rfl, (Array.getElem?_eq_some_iff.1 hg).1, fun i z hz => ?_⟩⟩
    have := World.ownsRow.cells h (g := g) rfl i (.int .i64 z) (by rw [List.getElem?_map, hz]; rfl)
    rwa [addr0] at this
theorem Ints.at_ {w : World} {A : Option Addr} {zs : List Int} (h : Ints w A zs) {i : Nat} (hi : i < zs.length) : ∃ g, A = some ⟨g, 0, none⟩ ∧ g < w.heap.size ∧ w.cell? ⟨g, i, none⟩ = some (.int .i64 zs[i]) := by
  obtain ⟨g, rfl, hg, hc⟩ := h (by intro e; subst e; simp at hi)
  exact ⟨g, rfl, hg, hc i _ (List.getElem?_eq_getElem hi)⟩

theorem infoI : (Try.prog.info? 3).map (fun i => (i.zero, i.size, i.bytes)) = some (some (.int .i64 0), 1, 8) := by kernel_rfl
theorem append_int {w : World} {B : Nat} {v : Value} {zs : List Int} {z : Int} {ty : TypeId} (hB : B ≤ w.heap.size) (hown : OwnI w B v zs) (hl : zs.length ≤ 5000000000) :
    ∃ g c w', (Builtin.append_ #[128, 128] ty #[v, .slice (some ⟨w.heap.size, 0, none⟩) 1 1]).run Try.prog (w.alloc (.cells #[.int .i64 z] 3)) = .ok (.slice (some ⟨g, 0, none⟩) (zs.length + 1) c) w' ∧
      OwnI w' B (.slice (some ⟨g, 0, none⟩) (zs.length + 1) c) (zs ++ [z]) ∧ Gr v (.slice (some ⟨g, 0, none⟩) (zs.length + 1) c) w w' := by
  obtain ⟨i0, hi, hz0, hz1, hz2⟩ := info_parts infoI
  have hown1 := World.ownsRow.alloc hown (.cells #[.int .i64 z] 3)
  obtain ⟨g, c, w', h1, h2, h3, h4, h5⟩ := run_append_lies (P := Try.prog) (w := w.alloc (.cells #[.int .i64 z] 3)) 128 ty B 3 i0 _ 1 8 Try.underlying128 hi hz0 hz1 hz2 rfl (by decide) v zs.length (ints zs) hown1
    ⟨w.heap.size, 0, none⟩ 1 1 [.int .i64 z] rfl (fun j u hu => by
      have hV := (Var.new w #[.int .i64 z] 3 _ rfl).cell j
      rw [addr0, hV]
      simpa using hu) (fun u hu => by
      simp only [List.mem_cons, List.not_mem_nil, or_false] at hu
      subst hu; rfl) (by decide) (by unfold maxLen; omega) (by omega) (by simp; omega) _ rfl
  refine ⟨g, c, w', h1, ?_, ?_⟩
  · unfold OwnI
    rw [List.length_append, show ints (zs ++ [z]) = ints zs ++ [.int .i64 z] by simp]
    exact h2
  · refine (Gr.of_below (v := v) ((Below.refl w.heap.size w).alloc (Nat.le_refl _) (.cells #[.int .i64 z] 3))).trans ⟨h3, fun k hk => ?_⟩
    rcases h4 with h4 | h4
    · refine .inl (h4.trans ?_)
      simpa [Value.ownBlock] using hk
    · refine .inr ?_
      have : g = k := by simpa [Value.ownBlock] using hk
      omega
theorem run_slLo {ρ : Operand → Value} {dst : Option Tmp} {ty : TypeId} {pos : String} {af : Array Edge} {x y : Operand} {w : World} {gd : Option (Nat × Bool)} {a : Addr} {n c j : Nat} (hx : ρ x = .slice (some a) n c) (hy : ρ y = .int .i64 j) (hj : j ≤ n) (hn : n ≤ c) (hc : c ≤ maxLen) :
    (execOp ρ { dst := dst, op := .slice 128 x (some y) none none, type := ty, pos := pos, after := af, guard := gd }).run Try.prog w = .ok (.value (.slice (some (if c = j then a else a.add j)) (n - j) (c - j))) w := by
  unfold maxLen at hc
  go_simp
  split <;> rfl

/-- x has been put into zs. -/
def PutOf (zs : List Int) (x : Int) (res : List Int) : Prop :=
  (x ∈ zs ∧ res = zs) ∨ ∃ k, k ≤ zs.length ∧ (∀ z ∈ zs.take k, z < x) ∧ (∀ z, zs[k]? = some z → x < z) ∧ res = zs.take k ++ x :: zs.drop k
def Sorted (zs : List Int) : Prop := List.Pairwise (· < ·) zs
theorem PutOf.sorted {zs res : List Int} {x : Int} (h : PutOf zs x res) (hs : Sorted zs) : Sorted res := by
  rcases h with ⟨-, rfl⟩ | ⟨k, hk, h1, h2, rfl⟩
  · exact hs
  · unfold Sorted at *
    have h3 : List.Pairwise (· < ·) (zs.take k ++ zs.drop k) := by rw [List.take_append_drop]; exact hs
    obtain ⟨p1, p2, p3⟩ := List.pairwise_append.1 h3
    have h4 : ∀ z ∈ zs.drop k, x < z := by
      cases hd : zs.drop k with
      | nil => intro z hz; cases hz
      | cons y r =>
        have hy : zs[k]? = some y := by
          have := congrArg (fun l => l[0]?) hd
          simpa using this
        have hxy := h2 y hy
        rw [hd] at p2
        intro z hz
        rcases List.mem_cons.1 hz with rfl | hz
        · exact hxy
        · have := (List.pairwise_cons.1 p2).1 z hz
          omega
    refine List.pairwise_append.2 ⟨p1, List.pairwise_cons.2 ⟨h4, p2⟩, fun a ha b hb => ?_⟩
    rcases List.mem_cons.1 hb with rfl | hb
    · exact h1 a ha
    · exact p3 a ha b hb
theorem PutOf.mem {zs res : List Int} {x : Int} (h : PutOf zs x res) (y : Int) : y ∈ res ↔ y = x ∨ y ∈ zs := by
  rcases h with ⟨h0, rfl⟩ | ⟨k, hk, h1, h2, rfl⟩
  · exact ⟨fun h => .inr h, fun h => h.elim (fun e => e ▸ h0) id⟩
  · have e : y ∈ zs ↔ y ∈ zs.take k ∨ y ∈ zs.drop k := by rw [← List.mem_append, List.take_append_drop]
    rw [List.mem_append, List.mem_cons, e]
    constructor
    · rintro (h | rfl | h)
      · exact .inr (.inl h)
      · exact .inl rfl
      · exact .inr (.inr h)
    · rintro (rfl | h | h)
      · exact .inr (.inl rfl)
      · exact .inl h
      · exact .inr (.inr h)
theorem PutOf.len {zs res : List Int} {x : Int} (h : PutOf zs x res) : res.length ≤ zs.length + 1 := by
  rcases h with ⟨h0, rfl⟩ | ⟨k, hk, h1, h2, rfl⟩
  · omega
  · rw [List.length_append, List.length_cons, List.length_take, List.length_drop]; omega

end Go.Proofs.Ytijkoaggcmgjiaa
