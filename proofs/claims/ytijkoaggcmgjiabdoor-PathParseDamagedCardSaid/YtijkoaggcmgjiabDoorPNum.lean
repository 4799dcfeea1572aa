/- What parseNumber of package path returns. -/
import Derived.Test.YtijkoaggcmgjiabDoorSpl
import Derived.Test.YtijkoaggcmgjiabDoorWText
import Derived.Test.YtijkoaggcmgjiabDoorOpen
import Derived.Test.YtijkoaggcmgjiabDoorShelf
namespace Go.Proofs.YtijkoaggcmgjiabDoor
open Go Go.RowKit
set_option linter.unusedVariables false
set_option linter.unusedSimpArgs false

/-- What the library's variables hold: the table of powers, some number, some errors. -/
structure Env (w : World) : Prop where
  tab : Tab w
  m : ∃ m, w.cell? ⟨0, 0, none⟩ = some (.int .i64 m)
  e4 : ∃ ev, w.cell? ⟨3, 0, none⟩ = some ev ∧ (ev = .nilIface ∨ ∃ te pe, ev = .iface te pe)
  e5 : ∃ ev, w.cell? ⟨4, 0, none⟩ = some ev ∧ (ev = .nilIface ∨ ∃ te pe, ev = .iface te pe)
theorem Env.next {w w' : World} (h : Env w) (hb : Below w.heap.size w w') : Env w' := by
  obtain ⟨ht, ⟨m, hm⟩, ⟨v4, h4, k4⟩, ⟨v5, h5, k5⟩⟩ := h
  exact ⟨tab_next ht hb, ⟨m, (hb.cell (cell_lt hm)).trans hm⟩, ⟨v4, (hb.cell (cell_lt h4)).trans h4, k4⟩, ⟨v5, (hb.cell (cell_lt h5)).trans h5, k5⟩⟩
theorem below_grow (w : World) (k : Nat) (os : Array Obj) : Below w.heap.size w (Sort.grow (w.drewN k) os) := by
  have h := below_drewN (Below.refl w.heap.size w) k
  exact ⟨h.os, h.tape, h.output, by show w.heap.size ≤ (w.heap ++ os).size; simp, fun b hb => by
    show (w.heap ++ os)[b]? = w.heap[b]?
    rw [Array.getElem?_append_left hb]⟩

/-- A word's number. -/
def numL (l : List UInt8) : Option Int := match Lib.atoiAll l with
  | .ok v => if Lib.itoa v = l ∧ -99999 ≤ v ∧ v ≤ 99999 then some v else none
  | _ => none
def numB (b : ByteArray) : Option Int := numL b.data.toList
theorem numL_itoa {z : Int} (h : -99999 ≤ z ∧ z ≤ 99999) : numL (Lib.itoa z) = some z := by
  unfold numL
  rw [Lib.atoiAll_short _ (by have := itoa_len5 h; omega), atoi_itoa]
  show (if Lib.itoa z = Lib.itoa z ∧ -99999 ≤ z ∧ z ≤ 99999 then some z else none) = some z
  rw [if_pos ⟨rfl, h⟩]
theorem atoi_any (s : ByteArray) (hl : s.size ≤ 4294967295) (w : World) (he : Env w) :
    Calls Tryd.prog 43 #[.string s] w fun e w' => ((∃ v, Lib.atoiAll s.data.toList = .ok v ∧ e = .returned (.tuple #[.int .i64 v, .nilIface])) ∨ ((∀ v, Lib.atoiAll s.data.toList ≠ .ok v) ∧ ∃ z t p, e = .returned (.tuple #[.int .i64 z, .iface t p]))) ∧ Below w.heap.size w w' := by
  cases h : Lib.atoiAll s.data.toList with
  | ok v =>
    refine (Tryd.strconv_Atoi_ok s (by omega) v h w).mono fun e w' ⟨he', hw⟩ => ⟨.inl ⟨v, rfl, he'⟩, ?_⟩
    rcases hw with rfl | ⟨t, rfl⟩
    · exact Below.refl _ _
    · exact Lib.bytesWorld_below w _ t
  | «syntax» =>
    obtain ⟨ev, h4, k4⟩ := he.e4
    exact (Tryd.strconv_Atoi_syntax s (by omega) h ev w h4 k4).mono fun e w' ⟨N, he', _, _, hb⟩ => ⟨.inr ⟨fun v k => (by cases k), _, _, _, he'⟩, hb⟩
  | range =>
    obtain ⟨ev, h5, k5⟩ := he.e5
    exact (Tryd.strconv_Atoi_range s (by omega) h ev w h5 k5).mono fun e w' ⟨N, he', _, _, hb⟩ => ⟨.inr ⟨fun v k => (by cases k), _, _, _, he'⟩, hb⟩
theorem itoa_any (v : Int) (h : -9223372036854775808 ≤ v ∧ v ≤ 9223372036854775807) (w : World) (he : Env w) :
    Calls Tryd.prog 44 #[.int .i64 v] w fun e w' => e = .returned (.string ⟨(Lib.itoa v).toArray⟩) ∧ Below w.heap.size w w' :=
  (Tryd.strconv_Itoa v h.1 h.2 w he.tab).mono fun e w' ⟨he', k, os, hw⟩ => ⟨he', by rw [hw]; exact below_grow w k os⟩

theorem loop_eq (bs : ByteArray) : ∀ (k i : Nat) (r : List UInt8), bs.size - i = k → ByteArray.toList.loop bs i r = r.reverse ++ bs.data.toList.drop i := by
  intro k
  induction k with
  | zero =>
    intro i r h
    rw [ByteArray.toList.loop, if_neg (by omega), List.drop_eq_nil_of_le (by have : bs.data.size = bs.size := rfl; simp; omega), List.append_nil]
  | succ k ih =>
    intro i r h
    have hi : i < bs.data.toList.length := by have : bs.data.size = bs.size := rfl; simp; omega
    rw [ByteArray.toList.loop, if_pos (by omega), ih (i + 1) _ (by omega), List.drop_eq_getElem_cons hi]
    have hi2 : i < bs.data.size := by simpa using hi
    simp [ByteArray.get!]
    exact getElem!_pos bs.data i hi2
theorem toList_data (bs : ByteArray) : bs.toList = bs.data.toList := by
  unfold ByteArray.toList
  rw [loop_eq bs _ 0 [] rfl]
  simp
/-- What parseNumber answers. -/
def PNum (o : Option Int) (e : Ending) : Prop := match o with
  | some v => e = .returned (.tuple #[.int .i64 v, .bool true])
  | none => e = .returned (.tuple #[.int .i64 0, .bool false])
theorem bytes_eq {s : ByteArray} {l : List UInt8} (h : l = s.data.toList) : (⟨l.toArray⟩ : ByteArray) = s := by
  subst h
  cases s
  simp

set_option maxHeartbeats 1000000 in
theorem parseNumber_any (s : ByteArray) (hl : s.size ≤ 4294967295) (w : World) (he : Env w) :
    Calls Tryd.prog 34 #[.string s] w fun e w' => PNum (numB s) e ∧ Below w.heap.size w w' := by
  have HE := hid he
  have HA := fun w (h : Env w) => hid (atoi_any s hl w h)
  clear he hl
  go_enter Tryd.func34, Tryd.ntmps34
  go_wp2_with fail
  (with_reducible refine (HA _ HE.out).out.mono ?_); rintro e w1 ⟨hr, hb⟩
  have HB := hid hb
  clear hb HA
  rcases hr with ⟨v, hv, rfl⟩ | ⟨hno, z, t, p, rfl⟩
  · have hbd := Lib.atoiAll_bounds hv
    have HI := hid (itoa_any v hbd w1 (HE.out.next HB.out))
    by_cases hs : Lib.itoa v = s.data.toList
    · have hbs := bytes_eq hs
      rw [hbs] at HI
      by_cases hw : -99999 ≤ v ∧ v ≤ 99999
      · have HN := hid (show numB s = some v by unfold numB numL; rw [hv]; simp only; rw [if_pos ⟨hs, hw⟩])
        have hdw : decide (Wi 99999 [v]) = true := decide_eq_true (wi1.2 hw)
        clear hs hv hbs hw
        go_wp2_with fail
        (with_reducible refine HI.out.mono ?_); rintro e w2 ⟨rfl, hb⟩
        have HB2 := hid (below_next HB.out hb)
        clear hb
        go_wp2_with fail
        (with_reducible refine (within_any 99999 [v] _ _ _ 1 _ (by omega) (by simp) rfl (Var.new w2 _ _ _ rfl).lies1).mono ?_); rintro x0 w3 ⟨rfl, hw3⟩
        have HB3 := hid (show Below _ _ w3 by rw [← hw3]; exact below_alloc HB2.out _)
        rw [hdw]
        clear hw3 hdw
        go_wp2_with fail
        go_ret2
        exact ⟨by rw [HN.out]; rfl, HB3.out⟩
      · have HN := hid (show numB s = none by unfold numB numL; rw [hv]; simp only; rw [if_neg (fun k => hw k.2)])
        have hdw : decide (Wi 99999 [v]) = false := decide_eq_false (fun k => hw (wi1.1 k))
        clear hs hv hbs hw
        go_wp2_with fail
        (with_reducible refine HI.out.mono ?_); rintro e w2 ⟨rfl, hb⟩
        have HB2 := hid (below_next HB.out hb)
        clear hb
        go_wp2_with fail
        (with_reducible refine (within_any 99999 [v] _ _ _ 1 _ (by omega) (by simp) rfl (Var.new w2 _ _ _ rfl).lies1).mono ?_); rintro x0 w3 ⟨rfl, hw3⟩
        have HB3 := hid (show Below _ _ w3 by rw [← hw3]; exact below_alloc HB2.out _)
        rw [hdw]
        clear hw3 hdw
        go_wp2_with fail
        go_ret2
        exact ⟨by rw [HN.out]; rfl, HB3.out⟩
    · have HN := hid (show numB s = none by unfold numB numL; rw [hv]; simp only; rw [if_neg (fun k => hs k.1)])
      have hne : ¬ (⟨(Lib.itoa v).toArray⟩ : ByteArray).toList = s.toList := fun k => hs (by rw [toList_data, toList_data] at k; simpa using k)
      clear hs hv
      generalize (⟨(Lib.itoa v).toArray⟩ : ByteArray) = s' at HI hne
      go_wp2_with fail
      (with_reducible refine HI.out.mono ?_); rintro e w2 ⟨rfl, hb⟩
      have HB2 := hid (below_next HB.out hb)
      clear hb
      go_wp2_with fail
      go_ret2
      exact ⟨by rw [HN.out]; rfl, HB2.out⟩
  · have HN := hid (show numB s = none by
      unfold numB numL
      split
      · rename_i v k; exact absurd k (hno v)
      · rfl)
    clear hno
    go_wp2_with fail
    go_ret2
    exact ⟨by rw [HN.out]; rfl, HB.out⟩

end Go.Proofs.YtijkoaggcmgjiabDoor
