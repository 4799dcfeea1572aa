/- fill.Fill of lines or rules that are not permitted; law1's few. -/
import Derived.Test.YtijkoaggcmgjiaaFst
namespace Go.Proofs.Ytijkoaggcmgjiaa
open Go Go.RowKit
set_option linter.unusedVariables false
set_option linter.unusedSimpArgs false

theorem fill_bad (A : Option Addr) (ls : List Ln) (n c : Nat) (rule : Int) (w : World) (hn : n = ls.length) (hl : n ≤ maxLen) (hs : Lns w A ls) (hok : lchk ls ≠ 0) :
    Calls Try.prog 13 #[.slice A n c, .int .i64 rule] w fun e w' => e = .returned (.tuple #[.slice none 0 0, .int .i64 (lchk ls)]) ∧ Below w.heap.size w w' := by
  have HS := hid hs
  have hne : (lchk ls != 0) = true := by simpa using hok
  have HC := hid (fcheck_any A ls n c w hn hl hs)
  clear hs hn hl hok
  generalize lchk ls = r at HC hne
  go_enter Try.func13, Try.ntmps13
  go_wp2_with fail
  (with_reducible refine (HC.out).mono ?_); rintro e w1 ⟨rfl, hb⟩
  have HB1 := hid hb
  clear hb
  go_wp2_with fail
  go_ret2
  exact ⟨rfl, HB1.out⟩
theorem fill_arg (A : Option Addr) (ls : List Ln) (n c : Nat) (rule : Int) (w : World) (hn : n = ls.length) (hl : n ≤ maxLen) (hs : Lns w A ls) (hok : lchk ls = 0) (h0 : rule ≠ 0) (h1 : rule ≠ 1) :
    Calls Try.prog 13 #[.slice A n c, .int .i64 rule] w fun e w' => e = .returned (.tuple #[.slice none 0 0, .int .i64 1]) ∧ Below w.heap.size w w' := by
  have HS := hid hs
  have e0 : (rule != 0) = true := by simpa using h0
  have e1 : (rule != 1) = true := by simpa using h1
  have HC := hid (fcheck_any A ls n c w hn hl hs)
  rw [hok] at HC
  clear hs hn hl hok h0 h1
  go_enter Try.func13, Try.ntmps13
  go_wp2_with fail
  (with_reducible refine (HC.out).mono ?_); rintro e w1 ⟨rfl, hb⟩
  have HB1 := hid hb
  clear hb
  go_wp2_with fail
  go_ret2
  exact ⟨rfl, HB1.out⟩
end Go.Proofs.Ytijkoaggcmgjiaa
namespace Go.Proofs.Ytijkoaggcmgjiaa
open Go Go.RowKit
set_option linter.unusedVariables false
set_option linter.unusedSimpArgs false

/-- The cells of lines whose points lie somewhere. -/
abbrev lec (e : LE) : Array Value := #[.slice e.A e.ps.length e.c, .bool e.cl]
def lflE (es : List LE) : List Value := es.flatMap fun e => (lec e).toList
theorem lflE_cons (e : LE) (r : List LE) : lflE (e :: r) = (lec e).toList ++ lflE r := rfl
theorem lflE_append (a b : List LE) : lflE (a ++ b) = lflE a ++ lflE b := by simp [lflE]
theorem lflE_length : ∀ es : List LE, (lflE es).length = es.length * 2
  | [] => rfl
  | e :: r => by rw [lflE_cons, List.length_append, lflE_length r]; simp; omega
theorem lflE_get : ∀ (es : List LE) (i : Nat) (e : LE), es[i]? = some e → (lflE es)[i * 2]? = some (.slice e.A e.ps.length e.c) ∧ (lflE es)[i * 2 + 1]? = some (.bool e.cl)
  | q :: r, 0, e, h => by
    obtain rfl : q = e := by simpa using h
    exact ⟨rfl, rfl⟩
  | q :: r, i + 1, e, h => by
    have := lflE_get r i e (by simpa using h)
    rw [lflE_cons]
    show ((.slice q.A q.ps.length q.c : Value) :: .bool q.cl :: lflE r)[(i + 1) * 2]? = _ ∧ ((.slice q.A q.ps.length q.c : Value) :: .bool q.cl :: lflE r)[(i + 1) * 2 + 1]? = _
    rw [show (i + 1) * 2 = i * 2 + 1 + 1 by omega]
    simpa using this
/-- Points that were there before a block number. -/
def OldP (w : World) (B : Nat) (e : LE) : Prop := Pts w e.A e.ps ∧ (e.ps ≠ [] → ∀ a, e.A = some a → a.block < B) ∧ e.ps.length ≤ e.c ∧ e.c ≤ maxLen
theorem OldP.below {w w' : World} {B : Nat} {e : LE} (h : OldP w B e) (hb : Below B w w') : OldP w' B e := by
  refine ⟨fun hn => ?_, h.2.1, h.2.2⟩
  obtain ⟨a, ha, hl, hr⟩ := h.1 hn
  have hB := h.2.1 hn a ha
  refine ⟨a, ha, Nat.lt_of_lt_of_le hl hb.size, fun i p hp => ?_⟩
  have := hr i p hp
  exact ⟨(hb.cell (by rw [add_block]; exact hB)).trans this.c0, (hb.cell (p := ⟨(a.add (i * 2)).block, (a.add (i * 2)).off + 1, none⟩) (by rw [add_block]; exact hB)).trans this.c1⟩
/-- A row of lines that a call owns, whose points are older. -/
structure OwnE (w : World) (B : Nat) (v : Value) (es : List LE) : Prop where
  r : w.ownsRow B 38 2 v es.length (lflE es)
  p : ∀ e ∈ es, OldP w B e
theorem OwnE.nil (w : World) (B : Nat) : OwnE w B (.slice none 0 0) [] := ⟨World.ownsRow_nil w B _ 2, fun e h => (by cases h)⟩
theorem OwnE.lns {w : World} {B : Nat} {v : Value} {es : List LE} (h : OwnE w B v es) : ∃ A c, v = .slice A es.length c ∧ LnsE w A es := by
  rcases h.r.2 with ⟨h1, h2⟩ | ⟨g, cap, cur, h1, h3, h4, h5, h6, h7, h8⟩
  · have : es = [] := List.eq_nil_of_length_eq_zero h2
    subst this
    exact ⟨none, 0, h1, LnsE.nil _ _⟩
  · refine ⟨some ⟨g, 0, none⟩, cap, h1, fun _ => ⟨_, rfl, (Array.getElem?_eq_some_iff.1 h4).1, fun i e he => ?_⟩⟩
    have hc : ∀ j u, (lflE es)[j]? = some u → w.cell? ⟨g, j, none⟩ = some u := fun j u hu => by
      have := World.ownsRow.cellAt (h1 ▸ h.r) j (by
        rcases Nat.lt_or_ge j (lflE es).length with k | k
        · rw [lflE_length] at k; exact k
        · rw [List.getElem?_eq_none k] at hu; cases hu)
      rw [this]; exact hu
    obtain ⟨g1, g2⟩ := lflE_get es i e he
    have hp := h.p e (List.mem_of_getElem? he)
    rw [adr0]
    exact ⟨hc _ _ g1, hc _ _ g2, hp.1, hp.2.2⟩
theorem infoLe : (Try.prog.info? 38).map (fun i => (i.zero, i.size, i.bytes)) = some (some (.agg #[.slice none 0 0, .bool false]), 2, 32) := by kernel_rfl
theorem append_le {w : World} {B : Nat} {v : Value} {es : List LE} {e : LE} {ty : TypeId} (hB : B ≤ w.heap.size) (h : OwnE w B v es) (hp : OldP w B e) (hl : es.length ≤ 5000000000) :
    ∃ v' w', (Builtin.append_ #[22, 22] ty #[v, .slice (some ⟨w.heap.size, 0, none⟩) 1 1]).run Try.prog (w.alloc (.cells (lec e) 38)) = .ok v' w' ∧ OwnE w' B v' (es ++ [e]) ∧ Gr v v' w w' := by
  obtain ⟨i0, hi, hz0, hz1, hz2⟩ := info_parts infoLe
  have hown1 := World.ownsRow.alloc h.r (.cells (lec e) 38)
  obtain ⟨g, c, w', h1, h2, h3, h4, h5⟩ := run_append_lies (P := Try.prog) (w := w.alloc (.cells (lec e) 38)) 22 ty B 38 i0 _ 2 32 Try.underlying22 hi hz0 hz1 hz2 rfl (by decide) v es.length (lflE es) hown1
    ⟨w.heap.size, 0, none⟩ 1 1 (lec e).toList rfl (fun j u hu => by
      have hV := (Var.new w (lec e) 38 _ rfl).cell j
      rw [adr0, hV]
      simpa using hu) (fun u hu => by
      simp only [List.mem_cons, List.not_mem_nil, or_false] at hu
      rcases hu with rfl | rfl <;> rfl) (by decide) (by unfold maxLen; omega) (by omega) (by simp; omega) _ rfl
  have hgr : Gr v (.slice (some ⟨g, 0, none⟩) (es.length + 1) c) w w' := by
    refine (Gr.of_below (v := v) ((Below.refl w.heap.size w).alloc (Nat.le_refl _) (.cells (lec e) 38))).trans ⟨h3, fun k hk => ?_⟩
    rcases h4 with h4 | h4
    · refine .inl (h4.trans ?_)
      simpa [Value.ownBlock] using hk
    · refine .inr ?_
      have : g = k := by simpa [Value.ownBlock] using hk
      omega
  have hbel : Below B w w' := hgr.below hB fun k hk => (World.ownsRow.lt h.r k hk).1
  refine ⟨_, w', h1, ⟨?_, fun x hx => ?_⟩, hgr⟩
  · rw [lflE_append, List.length_append]
    simpa [lflE] using h2
  · rcases List.mem_append.1 hx with hx | hx
    · exact (h.p x hx).below hbel
    · rw [List.mem_singleton] at hx; subst hx; exact hp.below hbel
theorem wpList_append_Le {ops : Array Oper} {rest : List Oper} {o : Oper} {a : Act} {Q : Exit → Act → World → Prop} {w : World} {B : Nat} {v : Value} {es : List LE} {s : LE} (hgd : o.guard = none) (y x : Operand)
    (ho : o.op = .call { callee := .builtin .append, args := #[y, x], argTypes := #[22, 22] }) (hB : B ≤ w.heap.size) (hs : a.eval y = v) (hx : a.eval x = .slice (some ⟨w.heap.size, 0, none⟩) 1 1)
    (hown : OwnE w B v es) (hp : OldP w B s) (hl : es.length ≤ 5000000000)
    (k : ∀ v' w', OwnE w' B v' (es ++ [s]) → Gr v v' w w' → wpList Try.prog ops Q rest (a.put o.dst v') w') : wpList Try.prog ops Q (o :: rest) a (w.alloc (.cells (lec s) 38)) := by
  obtain ⟨v', w', h1, h2, h3⟩ := append_le (ty := o.type) (e := s) hB hown hp hl
  refine wpList_plain hgd fun K hK' => ?_
  simp [Oper.wp, execOp, ho, resolve, invoke, builtin, hs, hx, h1, Result.andThen]
  exact hK' _ _ (k v' w' h2 h3)

def cutE (e : LE) : LE := ⟨e.A, e.c, e.ps.take 8, e.cl⟩
def fewE (es : List LE) : List LE := (es.take 4).map cutE
set_option maxRecDepth 100000 in
set_option maxHeartbeats 4000000 in
theorem few_any (A : Option Addr) (es : List LE) (n c : Nat) (w : World) (hn : n = es.length) (hl : n ≤ maxLen) (hE : LnsE w A es) :
    Calls Try.prog 12 #[.slice A n c] w fun e w' => (∃ A' c', e = .returned (.slice A' (fewE es).length c') ∧ LnsE w' A' (fewE es)) ∧ Below w.heap.size w w' := by
  have HE := hid hE
  have HN := hid hn
  unfold maxLen at hl
  clear hE hn
  go_enter Try.func12, Try.ntmps12
  go_wp2_with fail
  go_loopw [3, 4] (fun s3 s4 wr => ∃ (i : Nat) (v : Value), v = s3 ∧ s4 = .int .i64 i ∧ i ≤ n ∧ i ≤ 4 ∧ Hid (OwnE wr w.heap.size v ((es.take i).map cutE)) ∧ Hid (Below w.heap.size w wr)) (fun _ s4 _ => 4 - (intOf s4).toNat)
  case atStart => exact ⟨0, _, rfl, rfl, Nat.zero_le _, Nat.zero_le _, hid (OwnE.nil _ _), hid (Below.refl _ _)⟩
  case round =>
    obtain ⟨wo, rfl⟩ : ∃ wo, wo = wr := ⟨_, rfl⟩
    obtain ⟨i, v, rfl, rfl, hi1, hi2, HO, HB⟩ := hrel
    by_cases hlt : i < n
    · by_cases h4 : i < 4
      · have hil : i < es.length := by rw [← HN.out]; exact hlt
        obtain ⟨a, rfl, hal, hsa⟩ := (HE.out.next HB.out).at_ hil
        have hold : OldP w w.heap.size es[i] := by
          obtain ⟨a', ha', hal', hsa'⟩ := HE.out.at_ hil
          exact ⟨hsa'.pts, fun hne b hb => by obtain ⟨b', hb', hl', -⟩ := hsa'.pts hne; rw [hb] at hb'; obtain rfl := Option.some.inj hb'; exact hl', hsa'.le⟩
        have HT := hid (show (es.take (i + 1)).map cutE = (es.take i).map cutE ++ [cutE es[i]] by rw [List.take_succ_eq_append_getElem hil, List.map_append]; rfl)
        generalize es[i] = e at hsa hold HT
        obtain ⟨c0, c1, -, -⟩ := hsa
        have HOLD := hid (hold.below HB.out)
        have hlc := hold.2.2
        unfold maxLen at hlc
        obtain ⟨hlc1, hlc2⟩ := hlc
        have HLN := hid (show ((es.take i).map cutE).length ≤ 5000000000 by rw [List.length_map, List.length_take]; omega)
        by_cases h8 : 8 < e.ps.length
        · obtain ⟨b, hb, -, -⟩ := hold.1 (by intro e0; rw [e0] at h8; simp at h8)
          have h8i : (8 : Int) < (e.ps.length : Int) := by omega
          have h8c : (8 : Int) ≤ (e.c : Int) := by omega
          rw [hb] at c0
          have HP := hid (show OldP wo w.heap.size (cutE e) from ⟨fun hne => by
              obtain ⟨a', ha', hl', hr'⟩ := HOLD.out.1 (by intro e0; apply hne; show e.ps.take 8 = []; rw [e0]; rfl)
              exact ⟨a', ha', hl', fun j p hp => hr' j p (by
                have : (e.ps.take 8)[j]? = some p := hp
                rw [List.getElem?_take] at this
                split at this
                · exact this
                · cases this)⟩, fun hne => HOLD.out.2.1 (by intro e0; apply hne; show e.ps.take 8 = []; rw [e0]; rfl), by show (e.ps.take 8).length ≤ e.c; rw [List.length_take]; omega, HOLD.out.2.2.2⟩)
          have HCE := hid (show (lec (cutE e)) = #[.slice (some b) 8 e.c, .bool e.cl] by
            unfold cutE lec
            rw [hb, List.length_take, Nat.min_eq_left (by omega)])
          have HBZ := hid HB.out.size
          clear hold
          go_wp2_with (at_builtin; rw [← HCE.out]; refine wpList_append_Le (B := w.heap.size) (es := (es.take i).map cutE) (s := cutE e) rfl _ _ rfl HBZ.out rfl rfl HO.out HP.out HLN.out ?_)
          intro v5 w5 hown hgr
          have HO5 := hid hown
          have HB5 := hid (HB.out.trans (hgr.below HBZ.out fun k hk => (World.ownsRow.lt HO.out.r k hk).1))
          clear hown hgr
          go_wp2_with fail
          go_roundw
          case rel => exact ⟨i + 1, v5, rfl, by go_num, by omega, by omega, hid (by rw [HT.out, List.map_take]; exact HO5.out), HB5⟩
          case measure => simp [intOf]; omega
        · have h8i : ¬ (8 : Int) < (e.ps.length : Int) := by omega
          have HCE := hid (show cutE e = e by unfold cutE; rw [List.take_of_length_le (by omega)])
          rw [HCE.out] at HT
          have HBZ := hid HB.out.size
          clear hold
          go_wp2_with (at_builtin; refine wpList_append_Le (B := w.heap.size) (es := (es.take i).map cutE) (s := e) rfl _ _ rfl HBZ.out rfl rfl HO.out HOLD.out HLN.out ?_)
          intro v5 w5 hown hgr
          have HO5 := hid hown
          have HB5 := hid (HB.out.trans (hgr.below HBZ.out fun k hk => (World.ownsRow.lt HO.out.r k hk).1))
          clear hown hgr
          go_wp2_with fail
          go_roundw
          case rel => exact ⟨i + 1, v5, rfl, by go_num, by omega, by omega, hid (by rw [HT.out, List.map_take]; exact HO5.out), HB5⟩
          case measure => simp [intOf]; omega
      · have hi4 : i = 4 := by omega
        subst hi4
        obtain ⟨A', c', rfl, hL⟩ := HO.out.lns
        have HL := hid hL
        have hi : (4 : Int) < (n : Int) := by omega
        clear hL
        go_wp2_with fail
        go_ret
        exact ⟨⟨A', c', rfl, HL.out⟩, HB.out⟩
    · have HE2 := hid (show (es.take i).map cutE = fewE es by
        unfold fewE
        rw [List.take_of_length_le (show es.length ≤ i by have := HN.out; omega), List.take_of_length_le (show es.length ≤ 4 by have := HN.out; omega)])
      rw [HE2.out] at HO
      obtain ⟨A', c', rfl, hL⟩ := HO.out.lns
      have HL := hid hL
      clear hL
      go_wp2_with fail
      go_ret
      exact ⟨⟨A', c', rfl, HL.out⟩, HB.out⟩
end Go.Proofs.Ytijkoaggcmgjiaa
