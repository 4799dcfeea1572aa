/- A slice of bytes of the call's own whose block may bear the mark of a conversion from a string (behind its last cell): append, and strconv.AppendInt onto it. -/
import Derived.Test.YtijkoaggcmgjiabDoorLeaf
import Derived.Test.YtijkoaggcmgjiabDoorShelf
import Derived.Lib.AppendIntMem
import Derived.Lib.ItoaLen
import Derived.Lib.ItoaWalk
import Derived.Lib.ItoaMem
import Derived.Lib.AppendStr
import Derived.Lib.ConvBytes
import Derived.Lib.FrozenHead
import Derived.Lib.Slices
import Derived.OwnWalk
import Derived.BigCall
namespace Go.Proofs.YtijkoaggcmgjiabDoor
open Go Go.RowKit
set_option linter.unusedVariables false

/-- v is the head of a block of bytes, laid since B, whose first n cells are xs. -/
def OwnM (w : World) (B : Nat) (e : TypeId) (v : Value) (n : Nat) (xs : List Value) : Prop :=
  xs.length = n ∧ ∃ (g cap : Nat) (cur : Array Value) (fz : Nat × Nat), v = .slice (some ⟨g, 0, none⟩) n cap ∧ B ≤ g ∧ w.heap[g]? = some (.cells cur e fz) ∧ (fz = (0, 0) ∨ cur.size ≤ fz.1) ∧ n ≤ cap ∧ cap ≤ maxLen ∧ cur.size = cap ∧ cur.toList.take n = xs

theorem OwnM.keep {w w' : World} {B : Nat} {e : TypeId} {v : Value} {n : Nat} {xs : List Value} (h : OwnM w B e v n xs) (hb : Below w.heap.size w w') : OwnM w' B e v n xs := by
  obtain ⟨h1, g, cap, cur, fz, hv, hB, hg, r⟩ := h
  exact ⟨h1, g, cap, cur, fz, hv, hB, (hb.block g (Array.getElem?_eq_some_iff.1 hg).1).trans hg, r⟩
theorem OwnM.size {w : World} {B : Nat} {e : TypeId} {v : Value} {n : Nat} {xs : List Value} (h : OwnM w B e v n xs) : B ≤ w.heap.size := by
  obtain ⟨_, g, _, _, _, _, hB, hg, _⟩ := h
  have := (Array.getElem?_eq_some_iff.1 hg).1
  omega
theorem OwnM.cells {w : World} {B : Nat} {e : TypeId} {v : Value} {n : Nat} {xs : List Value} (h : OwnM w B e v n xs) : ∃ g cap, v = .slice (some ⟨g, 0, none⟩) n cap ∧ ∀ j u, xs[j]? = some u → w.cell? ((⟨g, 0, none⟩ : Addr).add j) = some u := by
  obtain ⟨h1, g, cap, cur, fz, rfl, hB, hg, hf, hn, hm, hc, ht⟩ := h
  refine ⟨g, cap, rfl, fun j u hu => ?_⟩
  have hadd : (⟨g, 0, none⟩ : Addr).add j = ⟨g, j, none⟩ := by unfold Addr.add; split <;> simp_all
  rw [hadd, cell_of_row w g j cur e fz hg]
  rw [← ht, List.getElem?_take] at hu
  split at hu
  · simpa using hu
  · cases hu

/-- The cells behind a mark are written as any. -/
theorem run_storeCells_mark (P : Program) (g o : Nat) (t : TypeId) (fz : Nat × Nat) : ∀ (vs : List Value) (i : Nat) (cur : Array Value) (w : World), w.heap[g]? = some (.cells cur t fz) → (fz = (0, 0) ∨ cur.size ≤ fz.1) → o + i + vs.length ≤ cur.size → (∀ v ∈ vs, v.oneCell' = true) →
    (storeCells ⟨g, o, none⟩ vs i).run P w = .ok () (w.setRow g (cur.toList.take (o + i) ++ vs ++ cur.toList.drop (o + i + vs.length)).toArray)
  | [], i, cur, w, hg, _, _, _ => by
    simp only [storeCells, List.append_nil, List.length_nil, Nat.add_zero, List.take_append_drop, Array.toArray_toList]
    rw [setRow_self w g cur t fz hg]
    rfl
  | v :: rest, i, cur, w, hg, hfz, hl, h1 => by
    have hi : o + i < cur.size := by simp at hl; omega
    have hadd : (⟨g, o, none⟩ : Addr).add i = ⟨g, o + i, none⟩ := by unfold Addr.add; split <;> simp_all
    have hcell : w.cell? ⟨g, o + i, none⟩ = some cur[o + i] := by simp [World.cell?, hg, hi]
    have hfro : w.frozen? ⟨g, o + i, none⟩ = false := by
      obtain ⟨lo, hi'⟩ := fz
      simp only [World.frozen?, hg, Bool.and_eq_false_iff, decide_eq_false_iff_not]
      rcases hfz with h | h
      · cases h; right; omega
      · left; simp only at h; omega
    have hst : (store ((⟨g, o, none⟩ : Addr).add i) v).run P w = .ok () (w.setRow g (cur.setIfInBounds (o + i) v)) := by
      rw [hadd, run_store P w _ v _ (h1 v (by simp)), hcell]
      simp [hfro, setCell_eq_setRow w g (o + i) cur t fz v hg]
    have ih := run_storeCells_mark P g o t fz rest (i + 1) (cur.setIfInBounds (o + i) v) (w.setRow g (cur.setIfInBounds (o + i) v)) (setRow_heap w g cur _ t _ hg) (by simpa using hfz) (by simp at hl ⊢; omega) (fun x hx => h1 x (by simp [hx]))
    simp only [storeCells, Sem.run_bind, hst, Result.andThen_ok, ih, setRow_setRow]
    congr 3
    have e := list_seg_step cur.toList (o + i) v rest (by simp at hl ⊢; omega)
    simpa [Array.toList_setIfInBounds, Nat.add_assoc] using e

section
variable {P : Program} {w : World}

theorem own_room {B : Nat} {e : TypeId} {n m cap g : Nat} {xs news : List Value} {cur : Array Value} {fz : Nat × Nat} (hx : xs.length = n) (hl : news.length = m) (hB : B ≤ g) (hg : w.heap[g]? = some (.cells cur e fz)) (hf : fz = (0, 0) ∨ cur.size ≤ fz.1) (hroom : n + m ≤ cap) (hm : cap ≤ maxLen) (hc : cur.size = cap) (ht : cur.toList.take n = xs) :
    OwnM (w.setRow g (cur.toList.take n ++ news ++ cur.toList.drop (n + m)).toArray) B e (.slice (some ⟨g, 0, none⟩) (n + m) cap) (n + m) (xs ++ news) ∧ Below B w (w.setRow g (cur.toList.take n ++ news ++ cur.toList.drop (n + m)).toArray) := by
  have hsz : (cur.toList.take n ++ news ++ cur.toList.drop (n + m)).toArray.size = cur.size := by
    simp only [List.size_toArray, List.length_append, List.length_take, List.length_drop, Array.length_toList]
    omega
  refine ⟨⟨by rw [List.length_append]; omega, g, cap, _, fz, rfl, hB, setRow_heap w g cur _ e _ hg, by rw [hsz]; exact hf, hroom, hm, by rw [hsz]; exact hc, ?_⟩, ⟨rfl, rfl, rfl, by simp, fun k hk => setRow_other w g k _ (by omega)⟩⟩
  have hl' : (xs ++ news).length = n + m := by rw [List.length_append]; omega
  rw [ht, ← hl']
  exact List.take_left
theorem own_grown {B : Nat} {e : TypeId} {n m cap c : Nat} {xs news : List Value} (hB : B ≤ w.heap.size) (hx : xs.length = n) (hl : news.length = m) (hge : n + m ≤ c) (hcm : c ≤ maxLen) :
    OwnM (w.drew.alloc (.cells (xs.toArray ++ news.toArray ++ Builtin.zeroCells (Value.int .u8 0).cells (c - (n + m))) e)) B e (.slice (some ⟨w.heap.size, 0, none⟩) (n + m) c) (n + m) (xs ++ news) ∧ Below B w (w.drew.alloc (.cells (xs.toArray ++ news.toArray ++ Builtin.zeroCells (Value.int .u8 0).cells (c - (n + m))) e)) := by
  have hz1 : (Value.int IntKind.u8 0).cells.size = 1 := rfl
  refine ⟨⟨by rw [List.length_append]; omega, w.heap.size, c, _, (0, 0), rfl, hB, heap_alloc_new w.drew _, .inl rfl, hge, hcm, ?_, ?_⟩, ((Below.refl B w).drew).alloc hB _⟩
  · simp only [Array.size_append, List.size_toArray, size_zeroCells, hz1]
    omega
  · have hl' : (xs ++ news).length = n + m := by rw [List.length_append]; omega
    simp only [Array.toList_append, List.append_assoc]
    rw [← List.append_assoc, ← hl']
    exact List.take_left

/-- append(v, x...), x a slice of other bytes. -/
theorem run_append_m (B : Nat) (t ty e : TypeId) (i : TypeInfo) (ht : P.underlying t = some (.slice e)) (hi : P.info? e = some i) (hz : i.zero = some (.int .u8 0)) (hsize : i.size = 1) (hby : i.bytes = 1)
    (v : Value) (n : Nat) (xs : List Value) (hown : OwnM w B e v n xs) (a : Addr) (m c : Nat) (news : List Value) (hl : news.length = m) (hnews : ∀ j u, news[j]? = some u → w.cell? (a.add j) = some u) (h1 : ∀ u ∈ news, u.oneCell' = true)
    (h63 : n + m ≤ maxLen) (hbytes : n + m ≤ 140737488355328) :
    ∃ v' w', (Builtin.append_ #[t, t] ty #[v, .slice (some a) m c]).run P w = .ok v' w' ∧ OwnM w' B e v' (n + m) (xs ++ news) ∧ Below B w w' := by
  have hbase := hown.size
  have hsmall : n + m ≤ 9223372036854775807 := by omega
  obtain ⟨g0, cap0, hv0, holds⟩ := hown.cells
  obtain ⟨hx, g, cap, cur, fz, hv, hB, hg, hf, hn, hm, hc, htk⟩ := hown
  subst hv
  cases hv0
  by_cases hroom : n + m ≤ cap0
  · have hfc := run_firstCells_some (P := P) w 1 m a m c news (by omega) hnews
    have hst := run_storeCells_mark P g0 n e fz news 0 cur w hg hf (by omega) h1
    simp only [Nat.add_zero, hl] at hst
    refine ⟨_, _, ?_, own_room hx hl hB hg hf hroom hm hc htk⟩
    simp [Builtin.append_, run_underlying ht, sizeOf, typeInfo, hi, hsize, Builtin.lenOf, hroom, hfc, Addr.add_lit, hst]
  · have hr := run_append_grow (P := P) w t ty e i (.int .u8 0) ht hi hz ⟨g0, 0, none⟩ n cap0 xs (by rw [hsize]; omega) holds a m c news (by rw [hsize]; omega) hnews (by omega) (by omega) (by rw [hby]; exact growslice_fits (by omega) (by omega))
    obtain ⟨o1, o2⟩ := own_grown (w := w) (B := B) (e := e) (cap := cap0) (xs := xs) (news := news) hbase hx hl (grownCap_ge w (n + m) cap0 e) (grownCap_le_maxLen w (n + m) cap0 e h63)
    exact ⟨_, _, hr, o1, o2⟩

/-- append(v, s...), s a string. -/
theorem run_append_ms (B : Nat) (t u ty e : TypeId) (i : TypeInfo) (ht : P.underlying t = some (.slice e)) (hu : P.underlying u = some .string) (hi : P.info? e = some i) (hz : i.zero = some (.int .u8 0)) (hsize : i.size = 1) (hby : i.bytes = 1)
    (v : Value) (n : Nat) (xs : List Value) (hown : OwnM w B e v n xs) (s : ByteArray) (h63 : n + s.size ≤ maxLen) (hbytes : n + s.size ≤ 140737488355328) :
    ∃ v' w', (Builtin.append_ #[t, u] ty #[v, .string s]).run P w = .ok v' w' ∧ OwnM w' B e v' (n + s.size) (xs ++ Lib.strCells s) ∧ Below B w w' := by
  have hbase := hown.size
  obtain ⟨g0, cap0, hv0, holds⟩ := hown.cells
  obtain ⟨hx, g, cap, cur, fz, hv, hB, hg, hf, hn, hm, hc, htk⟩ := hown
  subst hv
  cases hv0
  by_cases hroom : n + s.size ≤ cap0
  · have hfc := Lib.run_firstCells_string (P := P) w 1 s
    have hst := run_storeCells_mark P g0 n e fz (Lib.strCells s) 0 cur w hg hf (by rw [Lib.strCells_length]; omega) (Lib.strCells_oneCell s)
    simp only [Nat.add_zero, Lib.strCells_length] at hst
    refine ⟨_, _, ?_, own_room hx (Lib.strCells_length s) hB hg hf hroom hm hc htk⟩
    simp [Builtin.append_, run_underlying ht, run_underlying hu, sizeOf, typeInfo, hi, hsize, Builtin.lenOf, hroom, hfc, Addr.add_lit, hst]
  · have hr := Lib.run_append_grow_string (P := P) w t u ty e i (.int .u8 0) ht hu hi hz ⟨g0, 0, none⟩ n cap0 xs (by rw [hsize]; omega) holds s (by omega) (by omega) (by rw [hby]; exact growslice_fits (by omega) (by omega))
    obtain ⟨o1, o2⟩ := own_grown (w := w) (B := B) (e := e) (cap := cap0) (xs := xs) (news := Lib.strCells s) hbase hx (Lib.strCells_length s) (grownCap_ge w (n + s.size) cap0 e) (grownCap_le_maxLen w (n + s.size) cap0 e h63)
    exact ⟨_, _, hr, o1, o2⟩

/-- The operation, for the walk. -/
theorem wpList_append_by {ops : Array Oper} {rest : List Oper} {o : Oper} {a : Act} {Q : Exit → Act → World → Prop} {R : Value → World → Prop} (hgd : o.guard = none) (s x : Operand) (t u : TypeId)
    (ho : o.op = .call { callee := .builtin .append, args := #[s, x], argTypes := #[t, u] }) (v y : Value) (hs : a.eval s = v) (hx : a.eval x = y)
    (hr : ∃ v' w', (Builtin.append_ #[t, u] o.type #[v, y]).run P w = .ok v' w' ∧ R v' w')
    (h : ∀ v' w', R v' w' → wpList P ops Q rest (a.put o.dst v') w') : wpList P ops Q (o :: rest) a w :=
  wpList_plain hgd fun _ hK => by
    obtain ⟨v', w', h1, h2⟩ := hr
    unfold Oper.wp execOp
    simp only [ho, resolve, invoke, builtin, Sem.run_bind, Sem.run_pure, Result.andThen_ok, List.map_toArray, List.map_cons, List.map_nil, hs, hx, h1]
    exact hK _ _ (h v' w' h2)
end

theorem infoByte : (Tryd.prog.info? 5).map (fun i => (i.zero, i.size, i.bytes)) = some (some (.int .u8 0), 1, 1) := by kernel_rfl

end Go.Proofs.YtijkoaggcmgjiabDoor
