/- What Map returns for pixels that are bytes. -/
import Derived.Test.YtdjjijkdalpggaaMake
import Derived.Test.YtdjjijkdalpggaaSmall
namespace Go.Proofs.Ytdjjijkdalpggaa
open Go Go.RowKit
set_option linter.unusedVariables false

/-- A function of one byte that is handed in: what it returns; it makes new memory alone. -/
def Fun1 (gf : Nat) (cf : Array Value) (φ : Int → Int) (w : World) : Prop :=
  ∀ (W' : World) (v : Int), Below w.heap.size w W' → 0 ≤ v → v ≤ 255 → Calls Try.prog gf (#[.int .u8 v] ++ cf) W' fun e W'' => e = .returned (.int .u8 (φ v)) ∧ Below W'.heap.size W' W''

theorem Fun1.later {gf : Nat} {cf : Array Value} {φ : Int → Int} {w w1 : World} (h : Fun1 gf cf φ w) (hb : Below w.heap.size w w1) : Fun1 gf cf φ w1 :=
  fun W' v hW' h1 h2 => h W' v (hb.trans (hW'.mono hb.size)) h1 h2

set_option maxHeartbeats 1000000 in
theorem map_gives (W H : Nat) (g n c b bf gf : Nat) (cf : Array Value) (φ : Int → Int) (f : Nat → Int) (w : World) (hp : Px w g 0 n f) (hr : ∀ i, i < n → 0 ≤ f i ∧ f i ≤ 255) (hb : Boxed3 w b (.int .i64 W) (.int .i64 H) (.slice (some ⟨g, 0, none⟩) n c))
    (hfc : w.cell? ⟨bf, 0, none⟩ = some (.func (.func gf) #[] cf)) (eg0 : Enters Try.prog gf) (hφ : Fun1 gf cf φ w) (hW : 1 ≤ W ∧ W ≤ 1024) (hH : 1 ≤ H ∧ H ≤ 1024) (hn : n = W * H) (hg : g < w.heap.size) (hbl : b < w.heap.size) (hbf : bf < w.heap.size) :
    Gives 47 #[.pointer (some ⟨bf, 0, none⟩), .pointer (some ⟨b, 0, none⟩)] W H (fun x y => φ (f (y * W + x))) w := by
  intro w1 x y hbw hx hy
  have HP := hid (hp.below hbw hg)
  obtain ⟨k0, k1, k2⟩ := hb
  have k0' : w1.cell? ⟨b, 0, none⟩ = some (.int .i64 W) := (hbw.cell (p := ⟨b, 0, none⟩) hbl).trans k0
  have k1' : w1.cell? ⟨b, 1, none⟩ = some (.int .i64 H) := (hbw.cell (p := ⟨b, 1, none⟩) hbl).trans k1
  have k2' : w1.cell? ⟨b, 2, none⟩ = some (.slice (some ⟨g, 0, none⟩) n c) := (hbw.cell (p := ⟨b, 2, none⟩) hbl).trans k2
  have kf' : w1.cell? ⟨bf, 0, none⟩ = some (.func (.func gf) #[] cf) := (hbw.cell (p := ⟨bf, 0, none⟩) hbf).trans hfc
  have hg1 : g < w1.heap.size := Nat.lt_of_lt_of_le hg hbw.size
  have hb1 : b < w1.heap.size := Nat.lt_of_lt_of_le hbl hbw.size
  have hf1 : bf < w1.heap.size := Nat.lt_of_lt_of_le hbf hbw.size
  have h2 : ((y * W : Nat) : Int) = (y : Int) * W := Int.natCast_mul _ _
  have h1 : y * W + W ≤ n := by rw [hn, ← Nat.succ_mul, Nat.mul_comm W H]; exact Nat.mul_le_mul_right W (by omega)
  have hlin : (y : Int) * W + x < (n : Int) := by omega
  have hix : ((y : Int) * W + x).toNat = y * W + x := by omega
  have hrv := hr (y * W + x) (by omega)
  have hcall : ∀ W', Below w1.heap.size w1 W' → Calls Try.prog 35 #[grid W H (.slice (some ⟨g, 0, none⟩) n c), .int .i64 x, .int .i64 y] W' fun e w' => e = .returned (.int .u8 (f (y * W + x))) ∧ Below W'.heap.size W' w' := by
    intro W' hW'
    have := pixel_any W H x y g n c f W' (HP.out.below hW' hg1) (by omega) (by omega) (by omega) hlin (Nat.lt_of_lt_of_le hg1 hW'.size)
    rw [hix] at this
    exact this
  have hcf : ∀ W', Below w1.heap.size w1 W' → Calls Try.prog gf (#[.int .u8 (f (y * W + x))] ++ cf) W' fun e W'' => e = .returned (.int .u8 (φ (f (y * W + x)))) ∧ Below W'.heap.size W' W'' :=
    fun W' hW' => hφ W' _ (hbw.trans (hW'.mono hbw.size)) hrv.1 hrv.2
  have HC := Lib.hid hcall
  have HF := Lib.hid hcf
  have eg : ∀ args w, (callFunc gf args).run Try.prog w = .ok (.enter gf args) w := eg0
  show Calls Try.prog 47 _ w1 fun e W'' => e = .returned (.int .u8 (φ (f (y * W + x)))) ∧ Below w1.heap.size w1 W''
  generalize f (y * W + x) = v at HC HF hrv ⊢
  clear hp hr k0 k1 k2 hfc eg0 hφ hbw hix hcall hcf hn hlin h2 h1 HP
  go_enter Try.func47, Try.ntmps47
  go_wp2_with fail
  go_region_held3 (fun w' => w'.cell? ⟨b, 0, none⟩ = some (.int .i64 W) ∧ w'.cell? ⟨b, 1, none⟩ = some (.int .i64 H) ∧ w'.cell? ⟨b, 2, none⟩ = some (.slice (some ⟨g, 0, none⟩) n c) ∧ w'.cell? ⟨bf, 0, none⟩ = some (.func (.func gf) #[] cf)) (simp [go_sem, *])
    ((first
      | (go_at_call 35; refine (HC.out _ ?_).mono ?_; (repeat first | exact Below.refl _ _ | apply Below.drew | apply below_alloc); rintro e w2 ⟨rfl, hb2⟩; have HB2 := hid (below_next (by repeat first | exact Below.refl _ _ | apply Below.drew | apply below_alloc : Below w1.heap.size w1 _) hb2); obtain ⟨hc2, hf2⟩ := bcell HB2.out)
      | (go_at_fn gf; refine (HF.out _ ?_).mono ?_; (first | exact HB2.out | exact HB2.out.drew); rintro e w3 ⟨rfl, hb3⟩; have HB3 := hid (below_next (by first | exact HB2.out | exact HB2.out.drew : Below w1.heap.size w1 _) hb3); obtain ⟨hc3, hf3⟩ := bcell HB3.out)))
  go_wp2
  go_ret
  exact ⟨rfl, HB3.out⟩

theorem func_not_nil (gf : Nat) (cf : Array Value) (w : World) : (binOp .eql 38 (.func (.func gf) #[] cf) .nilFunc).run Try.prog w = .ok (.bool false) w := by
  kernel_rfl

set_option maxHeartbeats 1000000 in
theorem map_any (W H : Nat) (g n c gf : Nat) (cf : Array Value) (φ : Int → Int) (f : Nat → Int) (w : World) (hp : Px w g 0 n f) (hr : ∀ i, i < n → 0 ≤ f i ∧ f i ≤ 255) (eg0 : Enters Try.prog gf) (hφ : Fun1 gf cf φ w)
    (hW : 1 ≤ W ∧ W ≤ 1024) (hH : 1 ≤ H ∧ H ≤ 1024) (hn : n = W * H) (hg : g < w.heap.size) :
    Calls Try.prog 22 #[grid W H (.slice (some ⟨g, 0, none⟩) n c), .func (.func gf) #[] cf] w (OkGrid W H n (fun i => φ (f i)) w) := by
  have HP := hid hp
  have HN := hid hn
  have HR := hid hr
  have HE := hid eg0
  have HF := hid hφ
  have hck : ∀ w, Calls Try.prog 25 #[grid W H (.slice (some ⟨g, 0, none⟩) n c)] w fun e w' => e = .returned (.int .i64 0) ∧ Below w.heap.size w w' := fun w => check_ok W H _ n c w (by omega) (by omega) (by rw [hn, Int.natCast_mul])
  have HCK := Lib.hid hck
  clear hp hn hck hr eg0 hφ
  have hnf := func_not_nil gf cf
  go_enter Try.func22, Try.ntmps22
  go_wp2_with fail
  (with_reducible refine (HCK.out _).mono ?_); rintro e w1 ⟨rfl, hb1⟩
  obtain ⟨hc1, hf1⟩ := bcell hb1
  have HBW := hid (below_next (by repeat first | exact Below.refl _ _ | apply Below.drew | apply below_alloc : Below w.heap.size w _) hb1)
  have hs1 : w.heap.size + 3 ≤ w1.heap.size := by have := hb1.size; simp at this; exact this
  go_wp2_with fail
  (with_reducible refine (build_any 47 _ W H (fun x y => φ (f (y * W + x))) _ (enters_of Try.func47 (by kernel_rfl) rfl) (map_gives W H g n c w.heap.size (w.heap.size + 1) gf cf φ f _ ?_ HR.out ⟨?_, ?_, ?_⟩ ?_ HE.out (HF.out.later HBW.out) hW hH HN.out ?_ ?_ ?_) hW hH).mono ?_)
  · exact HP.out.below HBW.out hg
  · simp [go_sem, hc1]
  · simp [go_sem, hc1]
  · simp [go_sem, hc1]
  · simp [go_sem, hc1]
  · omega
  · omega
  · omega
  rintro e w3 ⟨g3, c3, rfl, hown, hb3⟩
  obtain ⟨hc3, hf3⟩ := bcell (hb1.trans (hb3.mono hb1.size))
  have HO := hid hown
  clear hc1 hf1
  go_wp2
  refine bodyPost_ret (v := .tuple #[grid W H (.slice (some ⟨g3, 0, none⟩) (W * H) c3), .int .i64 0]) (by simp [results, Try.results22, go_sem, *]) rfl ⟨g3, c3, by rw [HN.out], ?_, ?_⟩
  · rw [HN.out]
    refine ((HO.out.far3 (by have := HO.out.lt.1; omega)).mono (by omega)).congr fun i hi => ?_
    unfold flat
    have := Nat.div_add_mod i W; rw [Nat.mul_comm] at this
    show φ (f (i / W * W + i % W)) = _
    rw [this]
  · exact below3' HBW.out hb3 (by omega) (by omega)

theorem map_flat (W H : Nat) (g n c gf : Nat) (cf : Array Value) (φ : Int → Int) (F : Nat → Nat → Int) (w : World) (hp : Px w g 0 n (flat W F)) (hr : ∀ x y, 0 ≤ F x y ∧ F x y ≤ 255) (eg0 : Enters Try.prog gf) (hφ : Fun1 gf cf φ w)
    (hW : 1 ≤ W ∧ W ≤ 1024) (hH : 1 ≤ H ∧ H ≤ 1024) (hn : n = W * H) (hg : g < w.heap.size) :
    Calls Try.prog 22 #[grid W H (.slice (some ⟨g, 0, none⟩) n c), .func (.func gf) #[] cf] w (OkGrid W H n (flat W fun x y => φ (F x y)) w) :=
  map_any W H g n c gf cf φ (flat W F) w hp (fun i _ => hr _ _) eg0 hφ hW hH hn hg

end Go.Proofs.Ytdjjijkdalpggaa
