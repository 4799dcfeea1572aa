/- fill.Area2. -/
import Derived.Test.YtijkoaggcmgjiaaWin
namespace Go.Proofs.Ytijkoaggcmgjiaa
open Go Go.RowKit Go.Shelf
attribute [local go_sem] Oper.semAt_some
set_option linter.unusedVariables false
set_option linter.unusedSimpArgs false

/-- Twice the area as both programs add it up. -/
def stepA (s : Int) (e : Ed) : Int := wrap64 (s + edA e)
def areaF (es : List Ed) : Int := es.foldl stepA 0
theorem areaF_take {es : List Ed} {k : Nat} {e : Ed} (h : es[k]? = some e) : areaF (es.take (k + 1)) = wrap64 (areaF (es.take k) + edA e) := by
  unfold areaF
  rw [List.take_add_one, h, List.foldl_append]
  rfl
theorem prod_bd {a b : Int} (ha : -32767 ≤ a ∧ a ≤ 32767) (hb : -32767 ≤ b ∧ b ≤ 32767) : -1073676289 ≤ a * b ∧ a * b ≤ 1073676289 := by
  rcases Int.lt_or_le b 0 with h | h
  · have := mul_abs (a := a) (b := -b) (A := 32767) (B := 32767) ha (by omega)
    rw [Int.mul_neg] at this
    omega
  · have := mul_abs (a := a) (b := b) (A := 32767) (B := 32767) ha (by omega)
    omega

theorem area2_bad (A : Option Addr) (ls : List Ln) (n c : Nat) (w : World) (hn : n = ls.length) (hl : n ≤ maxLen) (hs : Lns w A ls) (h : lchk ls ≠ 0) :
    Calls Try.prog 21 #[.slice A n c] w fun e w' => e = .returned (.tuple #[.int .i64 0, .int .i64 (lchk ls)]) ∧ Below w.heap.size w w' := by
  have H := hid (fcheck_any A ls n c · hn hl)
  have HS := hid hs
  have h' : (lchk ls != 0) = true := by simpa using h
  clear hn hl hs h
  go_enter Try.func21, Try.ntmps21
  go_wp2_with fail
  (with_reducible refine (H.out _ HS.out).mono ?_); rintro e w1 ⟨rfl, hb⟩
  have HB1 := hid hb
  clear hb
  go_wp2_with fail
  go_ret2
  exact ⟨rfl, HB1.out⟩

set_option maxRecDepth 100000 in
set_option maxHeartbeats 4000000 in
theorem area2_okE (A : Option Addr) (es : List LE) (n c : Nat) (w : World) (hn : n = es.length) (hl : n ≤ maxLen) (hs : LnsE w A es) (h : lchk (es.map LE.ln) = 0) :
    Calls Try.prog 21 #[.slice A n c] w fun e w' => e = .returned (.tuple #[.int .i64 (areaF (edgesL (es.map LE.ln))), .int .i64 0]) ∧ Below w.heap.size w w' := by
  have H := hid (fcheck_any A (es.map LE.ln) n c · (by simpa using hn) hl)
  rw [h] at H
  have HOK := hid (lok_all (lok_of h))
  have HS := hid hs
  have HN := hid hn
  clear hn hs h
  refine (callsIn_wide (n := 6)).1 ?_
  refine callsIn_of_wp_marks Try.func21 rfl trivial ?_ rfl
  simp only [Try.ntmps21, List.size_toArray, List.length_cons, List.length_nil, Nat.reduceAdd, Nat.reduceSub, Array.replicate_succ, Array.replicate_zero, List.push_toArray, List.append_toArray, List.nil_append, List.cons_append]
  gi_wp2
  refine ⟨trivial, ?_⟩
  refine (callsIn_wide.2 (H.out _ HS.out.lns)).mono ?_
  rintro e w1 ⟨rfl, hb⟩
  have HB1 := hid hb
  clear hb
  gi_wp2
  refine ⟨trivial, ?_⟩
  refine (callsIn_wide.2 (edges_make _ _ _ _)).mono ?_
  rintro e X ⟨rfl, hX⟩
  rw [show (w1.alloc (.cells #[.int .i64 0] 3)).heap.size = w1.heap.size + 1 by simp]
  have HE0 := hid (show Eb w w1.heap.size 3 (.int .i64 0) A n c es X by rw [hX]; exact Eb.start HB1.out (HS.out.next HB1.out))
  have sX : X.heap.size = w1.heap.size + 2 := by rw [hX]; simp
  clear hX
  obtain ⟨ls, hls⟩ : ∃ ls, ls = es.map LE.ln := ⟨_, rfl⟩
  have HLS := hid hls
  rw [← hls] at HOK
  gi_wp2
  clear hls
  refine range_all (gf := 96) (lb := #[.pointer (some ⟨w1.heap.size + 1, 0, none⟩)]) rfl (by omega) rfl trivial (enters_of Try.func96 (by kernel_rfl) rfl) (EdAt ls) (edgesL ls).length
    (fun q M X => M = (fun z => z = w1.heap.size) ∧ Eb w w1.heap.size 3 (.int .i64 (areaF ((edgesL ls).take q))) A n c es X)
    (fun cd j X => False)
    (by rw [HLS.out]; exact edges_iter 5 (by omega) (w1.heap.size + 1) A es n c _ HN.out hl (fun q M X h => ⟨h.2.g.cell 0, h.2.l⟩)) (fun q v X h => by obtain ⟨p, -, rfl⟩ := h; rfl)
    (fun q M X Y h hb => ⟨h.1, h.2.next hb⟩)
    (fun q M X l o o' h hl ho e1 e2 => ⟨h.1, h.2.put o' (by omega) ho e1 e2⟩)
    (fun cd q X l o o' h hl ho e1 e2 => h)
    (fun z => z = w1.heap.size) (fun q h => by rw [sX, h]; omega) ⟨rfl, HE0.out⟩
    (fun q M v a' X => M = (fun z => z = w1.heap.size) ∧ Eb w w1.heap.size 3 (.int .i64 (areaF ((edgesL ls).take q))) A n c es X ∧
      ∃ B p, (edgesL ls)[q]? = some p ∧ Var X B (pcel p.1) 40 ∧ Var X (B + 1) (pcel p.2) 40 ∧ a' = { tmps := #[.slice A n c, undef, .int .i64 0, .int .i64 0, .int .i64 0, .pointer (some ⟨w1.heap.size, 0, none⟩), .pointer (some ⟨B, 0, none⟩), .pointer (some ⟨B + 1, 0, none⟩), .slice A n c, .int .i64 0, .int .i64 0, .bool false, undef, .slice A n c, .func (.func 96) #[] #[.pointer (some ⟨w1.heap.size + 1, 0, none⟩)], ptv p.1, ptv p.2, undef, undef, undef, undef, undef, undef, undef, undef, undef, undef, undef, undef, undef, undef], defers := [] })
    (fun q M v a' X l o o' h hl ho e1 e2 => by
      obtain ⟨h0, h1, B, p, h4, h5, h6, h7⟩ := h
      have no : ∀ {b cs t}, Var X b cs t → b ≠ l := fun hv e => by subst e; unfold Var at hv; rw [ho] at hv; cases hv; cases e1
      exact ⟨h0, h1.put o' (by omega) ho e1 e2, B, p, h4, h5.keep (World.putObj_heap_other (no h5)), h6.keep (World.putObj_heap_other (no h6)), h7⟩)
    ?assign ?body ?done ?stop
  case assign =>
    clear HE0
    rintro l q M v X K ⟨h0, h1⟩ hM ⟨p, hp, rfl⟩ hk hK
    gi_wp2
    have hb : Below X.heap.size X ((X.alloc (.cells (pcel p.1) 40)).alloc (.cells (pcel p.2) 40)) := below_alloc (below_alloc (Below.refl _ _) _) _
    exact hK _ _ (others_of hb) (Kept.below hb) ⟨h0, h1.next hb, X.heap.size, p, hp, (Var.new _ _ _ _ rfl).alloc _, Var.new _ _ _ _ (by simp), rfl⟩
  case body =>
    clear HE0
    rintro l q M v a' X ⟨rfl, h1, B, p, h4, h5, h6, rfl⟩ hk
    obtain ⟨⟨k1, k2⟩, k3, k4⟩ := edges_mem HOK.out p (List.mem_of_getElem? h4)
    have HD := hid (areaF_take h4)
    have e1 := prod_bd k3 k2
    have e2 := prod_bd k1 k4
    obtain ⟨A1, hA⟩ : ∃ z, p.2.x * p.1.y = z := ⟨_, rfl⟩
    obtain ⟨B1, hB⟩ : ∃ z, p.1.x * p.2.y = z := ⟨_, rfl⟩
    rw [show edA p = A1 - B1 by unfold edA; rw [hA, hB]] at HD
    rw [hA] at e1
    rw [hB] at e2
    obtain ⟨g1, g2⟩ := e1
    obtain ⟨g3, g4⟩ := e2
    obtain ⟨p0, p1, -⟩ := h5.read2
    obtain ⟨q0, q1, -⟩ := h6.read2
    have H1 := hid h1
    obtain ⟨u0, u1⟩ := h1.a.read1
    clear h1 h4 h5 h6 hk k1 k2 k3 k4
    generalize areaF ((edgesL ls).take q) = W at H1 HD u0
    gi_wp2
    exact ⟨KeepsOthers.setCell _ _ _, _, ⟨rfl, by rw [HD.out]; exact H1.out.set _⟩,
      fun q h => by rw [h, World.size_setCell]; exact H1.out.a.lt, fun q h => .inl h, Kept.set (M := fun z => z = w1.heap.size) (p := ⟨w1.heap.size, 0, none⟩) rfl _⟩
  case done =>
    clear HE0
    rintro D M X hD ⟨-, h1⟩ hK
    rw [List.take_of_length_le (Nat.le_refl _)] at h1
    have H1 := hid h1
    have HK := hid hK
    obtain ⟨u0, -⟩ := h1.a.read1
    clear h1 hK
    obtain ⟨W, hW⟩ : ∃ W, W = areaF (edgesL ls) := ⟨_, rfl⟩
    rw [← hW] at H1 u0
    have HWE := hid hW
    clear hW
    gi_wp2
    refine ⟨by simp, .inl ⟨_, _, rfl, run_takeDeferred HK.out, ?_⟩⟩
    refine ⟨.tuple #[.int .i64 W, .int .i64 0], by simp [results, Try.f21, go_sem], by rw [HWE.out, HLS.out], ?_⟩
    exact (H1.out.put _ (by omega) HK.out rfl rfl).b
  case stop =>
    rintro D c k A hD hk h hK
    exact h.elim
theorem area2_ok (A : Option Addr) (ls : List Ln) (n c : Nat) (w : World) (hn : n = ls.length) (hl : n ≤ maxLen) (hs : Lns w A ls) (h : lchk ls = 0) :
    Calls Try.prog 21 #[.slice A n c] w fun e w' => e = .returned (.tuple #[.int .i64 (areaF (edgesL ls)), .int .i64 0]) ∧ Below w.heap.size w w' := by
  obtain ⟨es, rfl, hE⟩ := hs.ext
  exact area2_okE A es n c w (by simpa using hn) hl hE h
end Go.Proofs.Ytijkoaggcmgjiaa
