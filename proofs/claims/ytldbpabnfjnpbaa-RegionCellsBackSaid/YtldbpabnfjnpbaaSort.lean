/- Points that slices.SortFunc sorts, by the kit's contract at this program. -/
import Derived.Test.YtldbpabnfjnpbaaShelf
import Derived.Test.YtldbpabnfjnpbaaWalk
import Derived.Test.YtldbpabnfjnpbaaPtO
import Derived.Test.YtldbpabnfjnpbaaOfP
import Derived.Lib.OwnBridge
import Derived.Shelf.SlSortCmp.NoneTotal
namespace Go.Proofs.Ytldbpabnfjnpbaa
open Go Go.RowKit
set_option linter.unusedVariables false

def encP (p : P2) : List Value := [.int .i64 p.x, .int .i64 p.y]
theorem compare_grow (p q : P2) (w : World) : Calls Try.prog 53 #[ptv p, ptv q] w fun e w' => e = .returned (.int .i64 (cmpP p q)) ∧ ∃ n os', w' = Sort.grow (w.drewN n) os' := by
  obtain ⟨x, y⟩ := p
  obtain ⟨x', y'⟩ := q
  by_cases h1 : y = y'
  · subst h1
    rw [show cmpP ⟨x, y⟩ ⟨x', y⟩ = cmpI x x' from if_neg (by simp)]
    go_enter Try.func53, Try.ntmps53
    go_wp2_with (go_at_call 74; (with_reducible refine (cmpC_any _ _ _).mono ?_); rintro e w' ⟨rfl, rfl⟩)
    go_ret
    exact ⟨rfl, 0, _, by rw [Sort.alloc_eq_grow, Sort.alloc_eq_grow, Sort.grow_grow]; rfl⟩
  · rw [show cmpP ⟨x, y⟩ ⟨x', y'⟩ = cmpI y y' from if_pos h1]
    have h2 : (y != y') = true := by simpa using h1
    go_enter Try.func53, Try.ntmps53
    go_wp2_with (go_at_call 74; (with_reducible refine (cmpC_any _ _ _).mono ?_); rintro e w' ⟨rfl, rfl⟩)
    go_ret
    exact ⟨rfl, 0, _, by rw [Sort.alloc_eq_grow, Sort.alloc_eq_grow, Sort.grow_grow]; rfl⟩

theorem ltOf_eq (p q : P2) : ltOf cmpP p q = ltP p q := by
  unfold ltOf ltP
  exact decide_eq_decide.2 cmpP_neg
theorem swoP : Sort.SWO (ltOf cmpP) where
  irrefl x := by rw [ltOf_eq]; unfold ltP; simp
  trans x y z h1 h2 := by rw [ltOf_eq] at *; unfold ltP at *; simp only [decide_eq_true_eq] at *; omega
  ntrans x y z h1 h2 := by rw [ltOf_eq] at *; unfold ltP at *; simp only [decide_eq_false_iff_not] at *; omega

/-- An owned row is held. -/
theorem own_holds {w : World} {B g c : Nat} {ps : List P2} (h : OwnP w B (.slice (some ⟨g, 0, none⟩) ps.length c) ps) : Sort.HoldsK encP 2 w g 0 ps.toArray := by
  intro t ht
  rw [Sort.size_flatK, List.size_toArray] at ht
  rw [Sort.get_flatK _ _ _ _ (by simpa using ht)]
  have hq : t / 2 < ps.length := by omega
  have h1 := World.ownsRow.cellAt h t ht
  have h2 := World.ownsRow.frozenAt h t
  rw [Nat.zero_add]
  refine ⟨h1.trans ?_, h2⟩
  have h3 := flatP_get ps (t / 2) (t % 2) _ (List.getElem?_eq_getElem hq) (by omega)
  rw [show t / 2 * 2 + t % 2 = t by omega] at h3
  rw [h3]
  have e : ps.toArray[t / 2]! = ps[t / 2] := by simp [hq]
  rw [e]
  rcases (show t % 2 = 0 ∨ t % 2 = 1 by omega) with hm | hm <;> rw [hm] <;> rfl
/-- A held row is a row of points. -/
theorem holds_pts {w : World} {g : Nat} {d : Array P2} (hg : g < w.heap.size) (h : Sort.HoldsK encP 2 w g 0 d) : Pts w (some ⟨g, 0, none⟩) d.toList := fun _ => ⟨_, rfl, hg, fun i s hs => ptAt_of fun j hj => by
  have hi : i < d.size := by
    rcases Nat.lt_or_ge i d.size with k | k
    · exact k
    · rw [List.getElem?_eq_none (by simpa using k)] at hs; cases hs
  have h1 := (h.cell hi hj).1
  have e : d[i]! = s := by
    rw [List.getElem?_eq_getElem (by simpa using hi)] at hs
    rw [getElem!_pos d i hi]
    simpa using hs
  rw [e] at h1
  have e1 : (⟨g, 0, none⟩ : Addr).add (i * 2) = ⟨g, i * 2, none⟩ := by unfold Addr.add; split <;> simp_all
  have e2 : (⟨g, i * 2, none⟩ : Addr).add j = ⟨g, i * 2 + j, none⟩ := by unfold Addr.add; split <;> simp_all
  rw [e1, e2, ← Nat.zero_add (i * 2), h1]
  rcases (show j = 0 ∨ j = 1 by omega) with rfl | rfl <;> rfl⟩
theorem below_sorted {B : Nat} {w : World} {g n : Nat} {d : Array P2} {os : Array Obj} (hB : B ≤ w.heap.size) (hg : B ≤ g) : Below B w (sortWorldK encP 2 w g 0 n d os) := by
  unfold sortWorldK Sort.putRowK
  have h := Lib.below_putRow (enc := id) (q := n) (d := Sort.flatK encP 2 d) (Below.refl B w) hg
  refine ⟨h.os, h.tape, h.output, ?_, fun k hk => ?_⟩
  · have := h.size
    simp only [Sort.grow, Array.size_append]
    omega
  · refine Eq.trans ?_ (h.block k hk)
    have h2 := h.size
    simp only [Sort.grow]
    exact Array.getElem?_append_left (by omega)
/-- slices.SortFunc of points that the call owns. -/
theorem sort_any (v : Value) (ps : List P2) (B : Nat) (w : World) (hB : B ≤ w.heap.size) (ho : OwnP w B v ps) (hl : ps.length ≤ 5000000000) :
    Calls Try.prog 52 #[v, .func (.func 53) #[] #[]] w fun e w' => e = .returned (.tuple #[]) ∧ ∃ A c qs, v = .slice A ps.length c ∧ qs.Perm ps ∧ List.Pairwise (fun p q => ltP q p = false) qs ∧ Pts w' A qs ∧ Below B w w' := by
  rcases ho.2 with ⟨rfl, h0⟩ | ⟨g, cap, cur, rfl, hb, -⟩
  · have e0 : ps = [] := List.eq_nil_of_length_eq_zero h0
    subst e0
    have hcon := AnyF.slices_SortFunc_none Try.sortL none 0 (.func (.func 53) #[] #[]) w
    refine Calls.mono hcon ?_
    rintro e w' ⟨rfl, rfl⟩
    exact ⟨rfl, none, 0, [], rfl, List.Perm.nil, List.Pairwise.nil, Pts.nil _ _, Below.refl _ _⟩
  · have hgl : g < w.heap.size := (ho.ge g rfl).2
    have eg : ∀ args w, (callFunc 53 args).run Try.prog w = .ok (.enter 53 args) w := enters_of Try.func53 (by kernel_rfl) rfl
    have hcon := AnyQ.slices_SortFunc Try.sortL 2 Try.isAgg31 Try.sizeOf31 encP (fun _ => rfl) (fun x v hv => by simp [encP] at hv; rcases hv with rfl | rfl <;> rfl) cmpP swoP 53 #[] g 0 cap ps.toArray w eg
      (fun m os dk _ x y => compare_grow x y _) (own_holds ho) hgl (by simp; omega)
    rw [List.size_toArray] at hcon
    refine Calls.mono hcon ?_
    rintro e w' ⟨rfl, d', n, os, hp, hs, rfl⟩
    have hsz : d'.size = ps.length := by simpa using hp.1
    have hps : d'.toList.Perm ps := by
      have := hp.2.2
      have e1 : d'.extract 0 ps.length = d' := by rw [← hsz]; simp
      simpa [e1] using this
    refine ⟨rfl, _, cap, d'.toList, rfl, hps, ?_, ?_, below_sorted hB hb⟩
    · refine List.pairwise_iff_getElem.2 fun i j hi hj hij => ?_
      have hi' : i < d'.size := by simpa using hi
      have hj' : j < d'.size := by simpa using hj
      have := hs i j (Nat.zero_le _) hij (by omega)
      rw [ltOf_eq, getElem!_pos d' i hi', getElem!_pos d' j hj'] at this
      simpa using this
    · exact holds_pts (lt_sortWorldK encP 2 w g 0 n d' os hgl) (holdsK_sortWorldK encP 2 w g 0 n ps.toArray d' os hgl (own_holds ho) (by simpa using hsz))

end Go.Proofs.Ytldbpabnfjnpbaa
