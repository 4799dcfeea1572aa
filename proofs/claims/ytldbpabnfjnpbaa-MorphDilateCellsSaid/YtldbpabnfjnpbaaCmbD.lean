/- The reference's Combined. -/
import Derived.Test.YtldbpabnfjnpbaaCmbB
import Derived.Deep.RegionHeld3
import Derived.Deep.CutBlock
namespace Go.Proofs.Ytldbpabnfjnpbaa
open Go Go.RowKit
set_option linter.unusedVariables false
set_option linter.unusedSimpArgs false

def kp (op : Int) (a b : Bool) : Bool := if op = 1 then a && b else if op = 2 then a && !b else if op = 3 then a != b else a || b
theorem kp0 (op : Int) : kp op false false = false := by
  unfold kp
  split
  · rfl
  · split
    · rfl
    · split <;> rfl
/-- The rows of the first k runs. -/
structure RowsOf (all : List Rn) (k : Nat) (zs : List Int) : Prop where
  s : Sorted zs
  m : ∀ y, y ∈ zs ↔ ∃ r ∈ all.take k, r.y = y
  n : zs.length ≤ k
theorem RowsOf.start (all : List Rn) : RowsOf all 0 [] := ⟨List.Pairwise.nil, fun y => by simp, Nat.le_refl _⟩
theorem RowsOf.next {all : List Rn} {k : Nat} {zs res : List Int} (h : RowsOf all k zs) (hk : k < all.length) (hp : PutOf zs all[k].y res) : RowsOf all (k + 1) res := by
  refine ⟨hp.sorted h.s, fun y => ?_, by have := hp.len; have := h.n; omega⟩
  rw [hp.mem, h.m, List.take_succ_eq_append_getElem hk]
  constructor
  · rintro (rfl | ⟨r, hr, e⟩)
    · exact ⟨_, List.mem_append_right _ (List.mem_singleton.2 rfl), rfl⟩
    · exact ⟨r, List.mem_append_left _ hr, e⟩
  · rintro ⟨r, hr, e⟩
    rcases List.mem_append.1 hr with hr | hr
    · exact .inr ⟨r, hr, e⟩
    · rw [List.mem_singleton] at hr; subst hr; exact .inl e.symm
/-- The borders of row y among the first k runs. -/
structure BordOf (all : List Rn) (y : Int) (k : Nat) (bs : List Int) : Prop where
  s : Sorted bs
  m : ∀ b, b ∈ bs ↔ ∃ r ∈ all.take k, r.y = y ∧ (b = r.a ∨ b = r.b)
  n : bs.length ≤ 2 * k
theorem BordOf.start (all : List Rn) (y : Int) : BordOf all y 0 [] := ⟨List.Pairwise.nil, fun b => by simp, Nat.le_refl _⟩
theorem BordOf.next {all : List Rn} {y : Int} {k : Nat} {bs r1 r2 : List Int} (h : BordOf all y k bs) (hk : k < all.length) (hy : all[k].y = y) (h1 : PutOf bs all[k].a r1) (h2 : PutOf r1 all[k].b r2) : BordOf all y (k + 1) r2 := by
  refine ⟨h2.sorted (h1.sorted h.s), fun b => ?_, by have := h1.len; have := h2.len; have := h.n; omega⟩
  rw [h2.mem, h1.mem, h.m, List.take_succ_eq_append_getElem hk]
  constructor
  · rintro (rfl | rfl | ⟨r, hr, e⟩)
    · exact ⟨_, List.mem_append_right _ (List.mem_singleton.2 rfl), hy, .inr rfl⟩
    · exact ⟨_, List.mem_append_right _ (List.mem_singleton.2 rfl), hy, .inl rfl⟩
    · exact ⟨r, List.mem_append_left _ hr, e⟩
  · rintro ⟨r, hr, e1, e2⟩
    rcases List.mem_append.1 hr with hr | hr
    · exact .inr (.inr ⟨r, hr, e1, e2⟩)
    · rw [List.mem_singleton] at hr
      subst hr
      rcases e2 with e2 | e2
      · exact .inr (.inl e2)
      · exact .inl e2
theorem BordOf.skip {all : List Rn} {y : Int} {k : Nat} {bs : List Int} (h : BordOf all y k bs) (hk : k < all.length) (hy : all[k].y ≠ y) : BordOf all y (k + 1) bs := by
  refine ⟨h.s, fun b => ?_, by have := h.n; omega⟩
  rw [h.m, List.take_succ_eq_append_getElem hk]
  constructor
  · rintro ⟨r, hr, e⟩
    exact ⟨r, List.mem_append_left _ hr, e⟩
  · rintro ⟨r, hr, e1, e2⟩
    rcases List.mem_append.1 hr with hr | hr
    · exact ⟨r, hr, e1, e2⟩
    · rw [List.mem_singleton] at hr; subst hr; exact absurd e1 hy
theorem BordOf.done {all : List Rn} {y : Int} {bs : List Int} (h : BordOf all y all.length bs) : Bord all y bs := ⟨h.s, by have := h.m; rwa [List.take_length] at this⟩
theorem sorted_room {lo hi : Int} {zs : List Int} (hs : Sorted zs) (h : ∀ z ∈ zs, lo ≤ z ∧ z ≤ hi) : zs.length ≤ (hi - lo + 1).toNat := by
  have up : ∀ (i : Nat) (hi' : i < zs.length), lo + i ≤ zs[i] := by
    intro i
    induction i with
    | zero => intro hi'; have := (h _ (List.getElem_mem hi')).1; simpa using this
    | succ i ih =>
      intro hi'
      have h1 := ih (by omega)
      have h2 := sorted_lt hs (by omega) hi' (Nat.lt_succ_self i)
      omega
  rcases Nat.eq_zero_or_pos zs.length with e | e
  · omega
  · have h1 := up (zs.length - 1) (by omega)
    have h2 := (h _ (List.getElem_mem (show zs.length - 1 < zs.length by omega))).2
    omega
/-- What Combined returns. -/
def CombRes (keep : Bool → Bool → Bool) (xs ys : List Rn) (w : World) (e : Ending) (w' : World) : Prop := ∃ v res, e = .returned v ∧ OwnR w' w.heap.size v res ∧ IsOp keep xs ys res ∧ Below w.heap.size w w'
def L1R (all : List Rn) (N : Nat) (w2 : World) (s8 s26 : Value) (wr : World) : Prop := ∃ (k : Nat) (v : Value) (zs : List Int), s8 = v ∧ k ≤ N ∧ s26 = .int .i64 k ∧ Hid (OwnI wr w2.heap.size v zs ∧ Below w2.heap.size w2 wr ∧ RowsOf all k zs)

theorem rhas_quiet {A : Option Addr} {ss : List Rn} {n c : Nat} {x y : Int} {w : World} {k : Nat} (hn : n = ss.length) (hl : n ≤ 40000) (hs : Runs w A ss) :
    Calls Try.prog 25 #[.slice A n c, .int .i64 x, .int .i64 y] (w.drewN k) fun e w'' => e = .returned (.bool (has ss x y)) ∧ ∃ m, w'' = w.drewN m :=
  Calls.quiet_of_same ((rhas_any A ss n c x y (w.drewN k) hn (by unfold maxLen; omega) (hs.next (below_drewN (Below.refl _ w) k))).mono fun e w' h => ⟨h.1, h.2.symm⟩)
def L2R (keep : Bool → Bool → Bool) (xs ys : List Rn) (zs : List Int) (R : Nat) (w0 : World) (s10 s39 : Value) (wr : World) : Prop := ∃ (i : Nat) (v : Value) (out : List Rn), s10 = v ∧ i ≤ R ∧ s39 = .int .i64 i ∧ Hid (OwnR wr w0.heap.size v out ∧ Below w0.heap.size w0 wr ∧ RInv keep xs ys (zs.take i) 160000 out)
def L3R (all : List Rn) (y : Int) (N : Nat) (w3 : World) (s13 s45 : Value) (wr : World) : Prop := ∃ (k : Nat) (v : Value) (bs : List Int), s13 = v ∧ k ≤ N ∧ s45 = .int .i64 k ∧ Hid (OwnI wr w3.heap.size v bs ∧ Below w3.heap.size w3 wr ∧ BordOf all y k bs)
def L4R (keep : Bool → Bool → Bool) (xs ys : List Rn) (R0 : List Int) (y : Int) (bs : List Int) (S : Nat) (A13 : Option Addr) (w0 : World) (s10 s15 : Value) (wr : World) : Prop := ∃ (k : Nat) (v : Value) (out : List Rn), s10 = v ∧ k + 1 ≤ S ∧ s15 = .int .i64 k ∧
  Hid (OwnR wr w0.heap.size v out ∧ Below w0.heap.size w0 wr ∧ JInv keep xs ys R0 160000 y bs k out ∧ Ints wr A13 bs ∧ ∀ g, A13 = some ⟨g, 0, none⟩ → v.ownBlock ≠ some g)

set_option maxHeartbeats 8000000 in
set_option maxRecDepth 100000 in
theorem combined_any (op : Int) (A A' : Option Addr) (xs ys : List Rn) (n c m c' : Nat) (w : World) (hn : n = xs.length) (hm : m = ys.length) (hnb : n ≤ 40000) (hmb : m ≤ 40000) (hx : Runs w A xs) (hy : Runs w A' ys) (hex : chk xs = 0) (hey : chk ys = 0) :
    Calls Try.prog 44 #[.slice A n c, .slice A' m c', .int .i64 op] w (CombRes (kp op) xs ys w) := by
  have HX := hid hx
  have HY := hid hy
  have HN := hid hn
  have HM := hid hm
  have HEX := hid hex
  have HEY := hid hey
  -- the two appends
  have hb0 : Below w.heap.size w (w.alloc (.cells #[] 37)) := below_alloc (Below.refl _ w) _
  obtain ⟨v1, wa, r1, o1, g1⟩ := append_runs (c := c) hb0.size (OwnR.lit0 w) hn (hx.next hb0) (by show 0 + n ≤ _; omega)
  have hb1 : Below w.heap.size w wa := hb0.trans (g1.below hb0.size (fun k hk => by have := ((OwnR.lit0 w).ge k hk).1; omega))
  rw [List.nil_append] at o1
  obtain ⟨v2, w2, r2, o2, g2⟩ := append_runs (c := c') hb1.size o1 hm (hy.next hb1) (by omega)
  have hb2 : Below w.heap.size w w2 := hb1.trans (g2.below hb1.size (fun k hk => (o1.ge k hk).1))
  obtain ⟨A7, c7, hv2, hr7⟩ := o2.is
  obtain ⟨N, hN⟩ : ∃ N, N = (xs ++ ys).length := ⟨_, rfl⟩
  have hNb : N ≤ 80000 := by rw [hN, List.length_append]; omega
  rw [← hN] at hv2
  rw [hv2] at r2
  have HR1 := hid r1
  have HR2 := hid r2
  have HB2 := hid hb2
  have HR7 := hid hr7
  have HNN := hid hN
  clear hx hy hn hm hex hey r1 r2 hb0 hb1 hb2 hr7 hN o1 g1 o2 g2 hv2 v2
  go_enter Try.func44, Try.ntmps44
  go_upto_region 1 with fail
  rename_i Kn hKn
  refine wp_region_lit ?_
  refine sq_start (n := 128) rfl fun a0 hs0 => ?_
  have ha0 := (((((((((((((((((((((((((((((((((((((((((((((((((((((((((((((((((((((((((((((((((((((((((((((((((((((((((((((((((((((((((((hs0.pin 0 (v := .slice A n c) rfl).pin 1 (v := .slice A' m c') rfl).pin 2 (v := .int .i64 op) rfl).pin 6 (v := .slice none 0 0) rfl).pin 3 (v := undef) rfl).pin 4 (v := undef) rfl).pin 5 (v := undef) rfl).pin 7 (v := undef) rfl).pin 8 (v := undef) rfl).pin 9 (v := undef) rfl).pin 10 (v := undef) rfl).pin 11 (v := undef) rfl).pin 12 (v := undef) rfl).pin 13 (v := undef) rfl).pin 14 (v := undef) rfl).pin 15 (v := undef) rfl).pin 16 (v := undef) rfl).pin 17 (v := undef) rfl).pin 18 (v := undef) rfl).pin 24 (v := undef) rfl).pin 25 (v := undef) rfl).pin 26 (v := undef) rfl).pin 27 (v := undef) rfl).pin 28 (v := undef) rfl).pin 29 (v := undef) rfl).pin 30 (v := undef) rfl).pin 31 (v := undef) rfl).pin 32 (v := undef) rfl).pin 33 (v := undef) rfl).pin 34 (v := undef) rfl).pin 35 (v := undef) rfl).pin 36 (v := undef) rfl).pin 37 (v := undef) rfl).pin 38 (v := undef) rfl).pin 39 (v := undef) rfl).pin 40 (v := undef) rfl).pin 41 (v := undef) rfl).pin 42 (v := undef) rfl).pin 43 (v := undef) rfl).pin 44 (v := undef) rfl).pin 45 (v := undef) rfl).pin 46 (v := undef) rfl).pin 47 (v := undef) rfl).pin 48 (v := undef) rfl).pin 49 (v := undef) rfl).pin 50 (v := undef) rfl).pin 51 (v := undef) rfl).pin 52 (v := undef) rfl).pin 53 (v := undef) rfl).pin 54 (v := undef) rfl).pin 55 (v := undef) rfl).pin 56 (v := undef) rfl).pin 57 (v := undef) rfl).pin 58 (v := undef) rfl).pin 59 (v := undef) rfl).pin 60 (v := undef) rfl).pin 61 (v := undef) rfl).pin 62 (v := undef) rfl).pin 63 (v := undef) rfl).pin 64 (v := undef) rfl).pin 65 (v := undef) rfl).pin 66 (v := undef) rfl).pin 67 (v := undef) rfl).pin 68 (v := undef) rfl).pin 69 (v := undef) rfl).pin 70 (v := undef) rfl).pin 71 (v := undef) rfl).pin 72 (v := undef) rfl).pin 73 (v := undef) rfl).pin 74 (v := undef) rfl).pin 75 (v := undef) rfl).pin 76 (v := undef) rfl).pin 77 (v := undef) rfl).pin 78 (v := undef) rfl).pin 79 (v := undef) rfl).pin 80 (v := undef) rfl).pin 81 (v := undef) rfl).pin 82 (v := undef) rfl).pin 83 (v := undef) rfl).pin 84 (v := undef) rfl).pin 85 (v := undef) rfl).pin 86 (v := undef) rfl).pin 87 (v := undef) rfl).pin 88 (v := undef) rfl).pin 89 (v := undef) rfl).pin 90 (v := undef) rfl).pin 91 (v := undef) rfl).pin 92 (v := undef) rfl).pin 93 (v := undef) rfl).pin 94 (v := undef) rfl).pin 95 (v := undef) rfl).pin 96 (v := undef) rfl).pin 97 (v := undef) rfl).pin 98 (v := undef) rfl).pin 99 (v := undef) rfl).pin 100 (v := undef) rfl).pin 101 (v := undef) rfl).pin 102 (v := undef) rfl).pin 103 (v := undef) rfl).pin 104 (v := undef) rfl).pin 105 (v := undef) rfl).pin 106 (v := undef) rfl).pin 107 (v := undef) rfl).pin 108 (v := undef) rfl).pin 109 (v := undef) rfl).pin 110 (v := undef) rfl).pin 111 (v := undef) rfl).pin 112 (v := undef) rfl).pin 113 (v := undef) rfl).pin 114 (v := undef) rfl).pin 115 (v := undef) rfl).pin 116 (v := undef) rfl).pin 117 (v := undef) rfl).pin 118 (v := undef) rfl).pin 119 (v := undef) rfl).pin 120 (v := undef) rfl).pin 121 (v := undef) rfl).pin 122 (v := undef) rfl).pin 123 (v := undef) rfl).pin 124 (v := undef) rfl).pin 125 (v := undef) rfl).pin 126 (v := undef) rfl).pin 127 (v := undef) rfl)
  clear hs0
  generalize (fun i => Array.getD _ i undef) = g0 at ha0
  refine sq_val (v := .slice (some ⟨w.heap.size, 0, none⟩) 0 0) ha0 rfl run_lit0 fun a1 ha1 => ?_
  refine sq_val (v := .slice A n c) ha1 rfl (rfl) fun a2 ha2 => ?_
  refine sq_val (v := v1) ha2 rfl (run_append rfl rfl (HR1.out _)) fun a3 ha3 => ?_
  refine sq_val (v := .slice A' m c') ha3 rfl (rfl) fun a4 ha4 => ?_
  refine sq_val (v := .slice A7 N c7) ha4 rfl (run_append rfl rfl (HR2.out _)) fun a5 ha5 => ?_
  refine sq_val (v := .slice A7 N c7) ha5 rfl (rfl) fun a6 ha6 => ?_
  refine wpList_nil ?_
  refine hKn _ _ ?_
  obtain ⟨g9, hg9, k0, k1, k2, k6, k7, k3, k4, k5, k8, k9, k10, k11, k12, k13, k14, k15, k16, k17, k18, k24, k25, k26, k27, k28, k29, k30, k31, k32, k33, k34, k35, k36, k37, k38, k39, k40, k41, k42, k43, k44, k45, k46, k47, k48, k49, k50, k51, k52, k53, k54, k55, k56, k57, k58, k59, k60, k61, k62, k63, k64, k65, k66, k67, k68, k69, k70, k71, k72, k73, k74, k75, k76, k77, k78, k79, k80, k81, k82, k83, k84, k85, k86, k87, k88, k89, k90, k91, k92, k93, k94, k95, k96, k97, k98, k99, k100, k101, k102, k103, k104, k105, k106, k107, k108, k109, k110, k111, k112, k113, k114, k115, k116, k117, k118, k119, k120, k121, k122, k123, k124, k125, k126, k127⟩ : ∃ g9, Is a6 128 g9 ∧ g9 0 = .slice A n c ∧ g9 1 = .slice A' m c' ∧ g9 2 = .int .i64 op ∧ g9 6 = .slice none 0 0 ∧ g9 7 = .slice A7 N c7 ∧ g9 3 = undef ∧ g9 4 = undef ∧ g9 5 = undef ∧ g9 8 = undef ∧ g9 9 = undef ∧ g9 10 = undef ∧ g9 11 = undef ∧ g9 12 = undef ∧ g9 13 = undef ∧ g9 14 = undef ∧ g9 15 = undef ∧ g9 16 = undef ∧ g9 17 = undef ∧ g9 18 = undef ∧ g9 24 = undef ∧ g9 25 = undef ∧ g9 26 = undef ∧ g9 27 = undef ∧ g9 28 = undef ∧ g9 29 = undef ∧ g9 30 = undef ∧ g9 31 = undef ∧ g9 32 = undef ∧ g9 33 = undef ∧ g9 34 = undef ∧ g9 35 = undef ∧ g9 36 = undef ∧ g9 37 = undef ∧ g9 38 = undef ∧ g9 39 = undef ∧ g9 40 = undef ∧ g9 41 = undef ∧ g9 42 = undef ∧ g9 43 = undef ∧ g9 44 = undef ∧ g9 45 = undef ∧ g9 46 = undef ∧ g9 47 = undef ∧ g9 48 = undef ∧ g9 49 = undef ∧ g9 50 = undef ∧ g9 51 = undef ∧ g9 52 = undef ∧ g9 53 = undef ∧ g9 54 = undef ∧ g9 55 = undef ∧ g9 56 = undef ∧ g9 57 = undef ∧ g9 58 = undef ∧ g9 59 = undef ∧ g9 60 = undef ∧ g9 61 = undef ∧ g9 62 = undef ∧ g9 63 = undef ∧ g9 64 = undef ∧ g9 65 = undef ∧ g9 66 = undef ∧ g9 67 = undef ∧ g9 68 = undef ∧ g9 69 = undef ∧ g9 70 = undef ∧ g9 71 = undef ∧ g9 72 = undef ∧ g9 73 = undef ∧ g9 74 = undef ∧ g9 75 = undef ∧ g9 76 = undef ∧ g9 77 = undef ∧ g9 78 = undef ∧ g9 79 = undef ∧ g9 80 = undef ∧ g9 81 = undef ∧ g9 82 = undef ∧ g9 83 = undef ∧ g9 84 = undef ∧ g9 85 = undef ∧ g9 86 = undef ∧ g9 87 = undef ∧ g9 88 = undef ∧ g9 89 = undef ∧ g9 90 = undef ∧ g9 91 = undef ∧ g9 92 = undef ∧ g9 93 = undef ∧ g9 94 = undef ∧ g9 95 = undef ∧ g9 96 = undef ∧ g9 97 = undef ∧ g9 98 = undef ∧ g9 99 = undef ∧ g9 100 = undef ∧ g9 101 = undef ∧ g9 102 = undef ∧ g9 103 = undef ∧ g9 104 = undef ∧ g9 105 = undef ∧ g9 106 = undef ∧ g9 107 = undef ∧ g9 108 = undef ∧ g9 109 = undef ∧ g9 110 = undef ∧ g9 111 = undef ∧ g9 112 = undef ∧ g9 113 = undef ∧ g9 114 = undef ∧ g9 115 = undef ∧ g9 116 = undef ∧ g9 117 = undef ∧ g9 118 = undef ∧ g9 119 = undef ∧ g9 120 = undef ∧ g9 121 = undef ∧ g9 122 = undef ∧ g9 123 = undef ∧ g9 124 = undef ∧ g9 125 = undef ∧ g9 126 = undef ∧ g9 127 = undef := ⟨_, ha6, rfl, rfl, rfl, rfl, rfl, rfl, rfl, rfl, rfl, rfl, rfl, rfl, rfl, rfl, rfl, rfl, rfl, rfl, rfl, rfl, rfl, rfl, rfl, rfl, rfl, rfl, rfl, rfl, rfl, rfl, rfl, rfl, rfl, rfl, rfl, rfl, rfl, rfl, rfl, rfl, rfl, rfl, rfl, rfl, rfl, rfl, rfl, rfl, rfl, rfl, rfl, rfl, rfl, rfl, rfl, rfl, rfl, rfl, rfl, rfl, rfl, rfl, rfl, rfl, rfl, rfl, rfl, rfl, rfl, rfl, rfl, rfl, rfl, rfl, rfl, rfl, rfl, rfl, rfl, rfl, rfl, rfl, rfl, rfl, rfl, rfl, rfl, rfl, rfl, rfl, rfl, rfl, rfl, rfl, rfl, rfl, rfl, rfl, rfl, rfl, rfl, rfl, rfl, rfl, rfl, rfl, rfl, rfl, rfl, rfl, rfl, rfl, rfl, rfl, rfl, rfl, rfl, rfl, rfl, rfl, rfl, rfl, rfl⟩
  have hw := hg9.whole
  rw [show ((List.range 128).map g9).toArray = #[g9 0, g9 1, g9 2, g9 3, g9 4, g9 5, g9 6, g9 7, g9 8, g9 9, g9 10, g9 11, g9 12, g9 13, g9 14, g9 15, g9 16, g9 17, g9 18, g9 19, g9 20, g9 21, g9 22, g9 23, g9 24, g9 25, g9 26, g9 27, g9 28, g9 29, g9 30, g9 31, g9 32, g9 33, g9 34, g9 35, g9 36, g9 37, g9 38, g9 39, g9 40, g9 41, g9 42, g9 43, g9 44, g9 45, g9 46, g9 47, g9 48, g9 49, g9 50, g9 51, g9 52, g9 53, g9 54, g9 55, g9 56, g9 57, g9 58, g9 59, g9 60, g9 61, g9 62, g9 63, g9 64, g9 65, g9 66, g9 67, g9 68, g9 69, g9 70, g9 71, g9 72, g9 73, g9 74, g9 75, g9 76, g9 77, g9 78, g9 79, g9 80, g9 81, g9 82, g9 83, g9 84, g9 85, g9 86, g9 87, g9 88, g9 89, g9 90, g9 91, g9 92, g9 93, g9 94, g9 95, g9 96, g9 97, g9 98, g9 99, g9 100, g9 101, g9 102, g9 103, g9 104, g9 105, g9 106, g9 107, g9 108, g9 109, g9 110, g9 111, g9 112, g9 113, g9 114, g9 115, g9 116, g9 117, g9 118, g9 119, g9 120, g9 121, g9 122, g9 123, g9 124, g9 125, g9 126, g9 127] from rfl] at hw
  rw [k0, k1, k2, k6, k7, k3, k4, k5, k8, k9, k10, k11, k12, k13, k14, k15, k16, k17, k18, k24, k25, k26, k27, k28, k29, k30, k31, k32, k33, k34, k35, k36, k37, k38, k39, k40, k41, k42, k43, k44, k45, k46, k47, k48, k49, k50, k51, k52, k53, k54, k55, k56, k57, k58, k59, k60, k61, k62, k63, k64, k65, k66, k67, k68, k69, k70, k71, k72, k73, k74, k75, k76, k77, k78, k79, k80, k81, k82, k83, k84, k85, k86, k87, k88, k89, k90, k91, k92, k93, k94, k95, k96, k97, k98, k99, k100, k101, k102, k103, k104, k105, k106, k107, k108, k109, k110, k111, k112, k113, k114, k115, k116, k117, k118, k119, k120, k121, k122, k123, k124, k125, k126, k127] at hw
  subst hw
  clear hg9 k0 k1 k2 k6 k7 k3 k4 k5 k8 k9 k10 k11 k12 k13 k14 k15 k16 k17 k18 k24 k25 k26 k27 k28 k29 k30 k31 k32 k33 k34 k35 k36 k37 k38 k39 k40 k41 k42 k43 k44 k45 k46 k47 k48 k49 k50 k51 k52 k53 k54 k55 k56 k57 k58 k59 k60 k61 k62 k63 k64 k65 k66 k67 k68 k69 k70 k71 k72 k73 k74 k75 k76 k77 k78 k79 k80 k81 k82 k83 k84 k85 k86 k87 k88 k89 k90 k91 k92 k93 k94 k95 k96 k97 k98 k99 k100 k101 k102 k103 k104 k105 k106 k107 k108 k109 k110 k111 k112 k113 k114 k115 k116 k117 k118 k119 k120 k121 k122 k123 k124 k125 k126 k127
  clear ha0 ha1 ha2 ha3 ha4 ha5 ha6 hKn Kn
  clear HR1 HR2
  go_wp2_with fail
  go_loopw [8, 26] (fun s8 s26 wr => L1R (xs ++ ys) N w2 s8 s26 wr) (fun _ s26 _ => N - (intOf s26).toNat)
  case atStart => exact ⟨0, _, [], rfl, Nat.zero_le _, rfl, hid ⟨OwnI.nil _ _, Below.refl _ _, RowsOf.start _⟩⟩
  case round =>
    obtain ⟨k, v, zs, hv, hkN, rfl, HL⟩ := hrel
    have hv' := hv.symm
    clear hv
    subst hv'
    by_cases hlt : k < N
    · have hlz : k < (xs ++ ys).length := by rw [← HNN.out]; exact hlt
      obtain ⟨a, rfl, hal, hsa⟩ := (HR7.out.next HL.out.2.1).at_ hlz
      have HNX := hid (fun res (h : PutOf zs (xs ++ ys)[k].y res) => HL.out.2.2.next hlz h)
      generalize (xs ++ ys)[k] = r at hsa HNX
      obtain ⟨c0, c1, c2⟩ := hsa
      go_wp2_with fail
      (with_reducible refine (put_any v zs r.y w2.heap.size _ HL.out.2.1.size HL.out.1 (by have := HL.out.2.2.n; omega)).mono ?_); rintro e w3 ⟨v', res, rfl, ho, hg, hp⟩
      have HL1 := hid (show OwnI w3 w2.heap.size v' res ∧ Below w2.heap.size w2 w3 ∧ RowsOf (xs ++ ys) (k + 1) res from ⟨ho, HL.out.2.1.grown hg.g HL.out.2.1.size (fun j hj => (HL.out.1.ge j hj).1), HNX.out res hp⟩)
      clear ho hg hp c0 c1 c2 HNX
      go_wp2_with fail
      go_roundw
      case rel => exact ⟨k + 1, v', res, rfl, by omega, by go_num, HL1⟩
      case measure => simp [intOf]; omega
    · obtain ⟨w5, rfl⟩ : ∃ w5, w5 = wr := ⟨_, rfl⟩
      have HK := hid (show k = N by omega)
      obtain ⟨A8, c8, hv8, -, -, hi8⟩ := HL.out.1.is
      obtain ⟨R, hR⟩ : ∃ R, R = zs.length := ⟨_, rfl⟩
      rw [← hR] at hv8
      have HRR := hid hR
      have HI8 := hid hi8
      have HZ := hid (HK.out ▸ HL.out.2.2)
      have HBr := hid HL.out.2.1
      have hR4 : R ≤ 16384 := by
        have := sorted_room HZ.out.s (lo := -8192) (hi := 8191) (fun z hz => by
          obtain ⟨r, hr, e⟩ := (HZ.out.m z).1 hz
          have hr := List.mem_of_mem_take hr
          have h1 : RnOk r := by
            rcases List.mem_append.1 hr with h | h
            · exact (chk_all HEX.out).1 r h
            · exact (chk_all HEY.out).1 r h
          have := h1.1.1
          omega)
        rw [HRR.out]
        omega
      clear hR hi8 HL
      subst hv8
      go_wp2_with fail
      go_loopw [10, 39] (fun s10 s39 wx => L2R (kp op) xs ys zs R w5 s10 s39 wx) (fun _ s39 _ => R - (intOf s39).toNat)
      case atStart => exact ⟨0, _, [], rfl, Nat.zero_le _, rfl, hid ⟨OwnR.nil _ _, Below.refl _ _, RInv.start⟩⟩
      case round =>
        obtain ⟨i, v, out, hv, hiR, rfl, HL⟩ := hrel
        obtain ⟨wx, rfl⟩ : ∃ wx, wx = wr := ⟨_, rfl⟩
        have hv' := hv.symm
        clear hv
        subst hv'
        by_cases hlt2 : i < R
        · have hiz : i < zs.length := by rw [← HRR.out]; exact hlt2
          obtain ⟨g8, hg8, -, hc8⟩ := (HI8.out.next HL.out.2.1).at_ hiz
          cases hg8
          have HYI := hid (show zs[i]? = some zs[i] from List.getElem?_eq_getElem hiz)
          generalize zs[i] = y at hc8 HYI
          go_wp2_with fail
          go_loopw [13, 45] (fun s13 s45 wy => L3R (xs ++ ys) y N wx s13 s45 wy) (fun _ s45 _ => N - (intOf s45).toNat)
          case atStart => exact ⟨0, _, [], rfl, Nat.zero_le _, rfl, hid ⟨OwnI.nil _ _, Below.refl _ _, BordOf.start _ _⟩⟩
          case round =>
            obtain ⟨q, vb, bs, hv, hqN, rfl, HL3⟩ := hrel
            obtain ⟨wy, rfl⟩ : ∃ wy, wy = wr := ⟨_, rfl⟩
            have hv' := hv.symm
            clear hv
            subst hv'
            by_cases hlt3 : q < N
            · have hlz3 : q < (xs ++ ys).length := by rw [← HNN.out]; exact hlt3
              obtain ⟨a, ha7, hal, hsa⟩ := ((HR7.out.next HBr.out).next (HL.out.2.1.trans (HL3.out.2.1.mono HL.out.2.1.size))).at_ hlz3
              have HNY := hid (fun r1 r2 (h0 : (xs ++ ys)[q].y = y) (h1 : PutOf bs (xs ++ ys)[q].a r1) (h2 : PutOf r1 (xs ++ ys)[q].b r2) => HL3.out.2.2.next hlz3 h0 h1 h2)
              have HNS := hid (fun (h0 : (xs ++ ys)[q].y ≠ y) => HL3.out.2.2.skip hlz3 h0)
              generalize (xs ++ ys)[q] = r at hsa HNY HNS
              obtain ⟨c0, c1, c2⟩ := hsa
              subst ha7
              by_cases hry : r.y = y
              · have HNY1 := hid (fun r1 r2 => HNY.out r1 r2 hry)
                rw [hry] at c0
                clear HNY HNS hry
                go_upto_region 17 with fail
                have hkb : (a.add (q * 3)).block < wy.heap.size := by rw [add_block]; exact hal
                have HKN : Hid (vb.ownBlock ≠ some (a.add (q * 3)).block) := hid (fun e => by
                  have h1 := (HL3.out.1.ge _ e).1
                  have h2 := HR7.out
                  have h3 := Nat.le_trans HBr.out.size HL.out.2.1.size
                  rw [add_block] at h1
                  obtain ⟨a2, ha2, hl2, -⟩ := h2 (by intro e2; rw [e2] at hlz3; simp at hlz3)
                  cases ha2
                  omega)
                go_region_held3 (fun w' => w'.cell? ⟨(a.add (q * 3)).block, (a.add (q * 3)).off + 1, none⟩ = some (.int .i64 r.a) ∧ w'.cell? ⟨(a.add (q * 3)).block, (a.add (q * 3)).off + 2, none⟩ = some (.int .i64 r.b))
                  (first
                    | go_keep
                    | (refine ⟨?_, ?_⟩
                       · (first | exact (hg1.trans hg2).cellk hkb HKN.out c1 | exact hg1.cellk hkb HKN.out c1)
                       · (first | exact (hg1.trans hg2).cellk hkb HKN.out c2 | exact hg1.cellk hkb HKN.out c2)))
                  (first
                    | (go_at_call_of 67 vb; refine (put_any vb bs r.a wx.heap.size wy.drew HL3.out.2.1.size HL3.out.1 (by have := HL3.out.2.2.n; omega)).mono ?_; rintro e wz ⟨v61, r1, rfl, ho1, hg1, hp1⟩)
                    | (go_at_call_of 67 v61; refine (put_any v61 r1 r.b wx.heap.size wz (Nat.le_trans HL3.out.2.1.size hg1.size) ho1 (by have := HL3.out.2.2.n; have := hp1.len; omega)).mono ?_; rintro e wz2 ⟨v67, r2, rfl, ho2, hg2, hp2⟩))
                have HG := hid (hg1.trans hg2)
                have HL4 := hid (show OwnI wz2 wx.heap.size v67 r2 ∧ Below wx.heap.size wx wz2 ∧ BordOf (xs ++ ys) y (q + 1) r2 from ⟨ho2, (HL3.out.2.1.drew).trans (HG.out.below (by exact HL3.out.2.1.size) (fun j hj => (HL3.out.1.ge j hj).1)), HNY1.out r1 r2 hp1 hp2⟩)
                clear ho1 ho2 hg1 hg2 hp1 hp2 c0 c1 c2 HNY1
                go_wp2_with fail
                go_roundw
                case rel => exact ⟨q + 1, v67, r2, rfl, by omega, by go_num, HL4⟩
                case measure => simp [intOf]; omega
              · have HNS1 := hid (HNS.out hry)
                have hry' : (r.y == y) = false := by simpa using hry
                have HL4 := hid (show OwnI wy wx.heap.size vb bs ∧ Below wx.heap.size wx wy ∧ BordOf (xs ++ ys) y (q + 1) bs from ⟨HL3.out.1, HL3.out.2.1, HNS1.out⟩)
                clear HNY HNS hry HNS1
                go_wp2_with fail
                go_roundw
                case rel => exact ⟨q + 1, vb, bs, rfl, by omega, by go_num, HL4⟩
                case measure => simp [intOf]; omega
            · obtain ⟨w6, rfl⟩ : ∃ w6, w6 = wy := ⟨_, rfl⟩
              have HQN := hid (show q = N by omega)
              obtain ⟨A13, c13, hv13, -, -, hi13⟩ := HL3.out.1.is
              obtain ⟨S, hS⟩ : ∃ S, S = bs.length := ⟨_, rfl⟩
              rw [← hS] at hv13
              have HSS := hid hS
              have HBD := hid (show Bord (xs ++ ys) y bs from BordOf.done (by rw [← HNN.out, ← HQN.out]; exact HL3.out.2.2))
              have HSN := hid (show S ≤ 2 * N by rw [hS, ← HQN.out]; exact HL3.out.2.2.n)
              have HI13 := hid hi13
              have HO6 := hid (HL.out.1.next HL3.out.2.1)
              have HB6 := hid (HL.out.2.1.trans (HL3.out.2.1.mono HL.out.2.1.size))
              have HNE6 : Hid (∀ g, A13 = some ⟨g, 0, none⟩ → v.ownBlock ≠ some g) := hid (fun g hg e => by
                have h1 := (HL.out.1.ge g e).2
                have h2 := (HL3.out.1.ge g (by rw [hv13, hg]; rfl)).1
                omega)
              have HYR : Hid (∃ r ∈ xs ++ ys, r.y = y) := hid (by
                have h1 := (HZ.out.m y).1 (List.mem_of_getElem? HYI.out)
                obtain ⟨r, hr, e⟩ := h1
                exact ⟨r, List.mem_of_mem_take hr, e⟩)
              have HVX : Hid (∀ r ∈ xs ++ ys, RnOk r) := hid (fun r hr => by
                rcases List.mem_append.1 hr with hr | hr
                · exact (chk_all HEX.out).1 r hr
                · exact (chk_all HEY.out).1 r hr)
              have hS2 : 2 ≤ S := by
                obtain ⟨r, hr, e⟩ := HYR.out
                have ha := (HBD.out.m r.a).2 ⟨r, hr, e, .inl rfl⟩
                have hb := (HBD.out.m r.b).2 ⟨r, hr, e, .inr rfl⟩
                have hlt := (HVX.out r hr).2
                rw [HSS.out]
                obtain ⟨i1, h1, e1⟩ := List.getElem_of_mem ha
                obtain ⟨i2, h2, e2⟩ := List.getElem_of_mem hb
                have : i1 ≠ i2 := fun e => by subst e; omega
                omega
              have HYB : Hid (-8192 ≤ y ∧ y ≤ 8191) := hid (by
                obtain ⟨r, hr, e⟩ := HYR.out
                have := (HVX.out r hr).1.1
                omega)
              have HBB : Hid (∀ b ∈ bs, -8192 ≤ b ∧ b ≤ 8192) := hid (fun b hb => by
                obtain ⟨r, hr, e1, e2⟩ := (HBD.out.m b).1 hb
                have := (HVX.out r hr).1
                unfold RnIn at this
                omega)
              have HJ := hid (HL.out.2.2.begin (kp0 op) (fun z hz => by
                obtain ⟨j, hj, rfl⟩ := List.getElem_of_mem hz
                have hji : j < i := by rw [List.length_take] at hj; omega
                rw [List.getElem_take]
                have hjl : j < zs.length := by rw [List.length_take] at hj; omega
                have h1 := sorted_lt HZ.out.s hjl hiz hji
                have h2 := HYI.out
                rw [List.getElem?_eq_getElem hiz] at h2
                have h3 := Option.some.inj h2
                omega) HBD.out (by rw [← HSS.out]; omega))
              have hS3 : S ≤ 160000 := by have := HSN.out; omega
              subst hv13
              clear hS hi13 HL3 HYR
              go_wp2_with fail
              go_loopw [10, 15] (fun s10 s15 wy => L4R (kp op) xs ys (zs.take i) y bs S A13 w5 s10 s15 wy) (fun _ s15 _ => S - (intOf s15).toNat)
              case atStart => exact ⟨0, v, out, rfl, by omega, rfl, hid ⟨HO6.out, HB6.out, HJ.out, HI13.out, HNE6.out⟩⟩
              case round =>
                obtain ⟨j, v2, out2, hv, hjS, rfl, HL5⟩ := hrel
                have hv' := hv.symm
                clear hv
                subst hv'
                obtain ⟨w7, rfl⟩ : ∃ w7, w7 = wr := ⟨_, rfl⟩
                by_cases hlt4 : j + 1 < S
                · have hj0 : j < bs.length := by rw [← HSS.out]; omega
                  have hj1 : j + 1 < bs.length := by rw [← HSS.out]; exact hlt4
                  obtain ⟨g13, hg13, hl13, d0⟩ := HL5.out.2.2.2.1.at_ hj0
                  subst hg13
                  obtain ⟨g13', hg13', -, d1⟩ := HL5.out.2.2.2.1.at_ hj1
                  cases hg13'
                  have HSK := hid (fun h => HL5.out.2.2.1.skip HBD.out hj1 h)
                  have HJN := hid (fun h => HL5.out.2.2.1.join HBD.out hj1 HYB.out HBB.out h)
                  generalize bs[j] = b0 at d0 HSK HJN
                  generalize bs[j + 1] = b1 at d1 HJN
                  have HX7 := hid (HX.out.next (HB2.out.trans ((HBr.out.mono HB2.out.size).trans (HL5.out.2.1.mono (Nat.le_trans HB2.out.size HBr.out.size)))))
                  have HY7 := hid (HY.out.next (HB2.out.trans ((HBr.out.mono HB2.out.size).trans (HL5.out.2.1.mono (Nat.le_trans HB2.out.size HBr.out.size)))))
                  have hsum : IntKind.i64.wrap ((j : Int) + 1) = ((j + 1 : Nat) : Int) := IntWalk.i64_in _ (by omega)
                  go_upto_region 22 with fail
                  go_quiet (first
                    | (go_at_call_of 25 (Value.slice A n c); exact rhas_quiet HN.out (by omega) HX7.out)
                    | (go_at_call_of 25 (Value.slice A' m c'); exact rhas_quiet HM.out (by omega) HY7.out))
                  generalize hP : has xs b0 y = P at HSK HJN
                  generalize hQ : has ys b0 y = Q at HSK HJN
                  generalize hw8 : World.drewN w7 _ = w8
                  have hb8 : Below w7.heap.size w7 w8 := by rw [← hw8]; exact below_drewN (Below.refl _ _) _
                  have hl13' : g13 < w8.heap.size := Nat.lt_of_lt_of_le hl13 hb8.size
                  replace d0 := (hb8.cell (p := ⟨g13, j, none⟩) hl13).trans d0
                  replace d1 := (hb8.cell (p := ⟨g13, j + 1, none⟩) hl13).trans d1
                  have HO8 := hid (HL5.out.1.next hb8)
                  have HB8 := hid (HL5.out.2.1.trans (hb8.mono HL5.out.2.1.size))
                  have HI8' := hid (HL5.out.2.2.2.1.next hb8)
                  have HNE8 := hid (HL5.out.2.2.2.2 g13 rfl)
                  have HJ8 := hid HL5.out.2.2.1
                  have hout : out2.length ≤ 5000000000 := by
                    have h1 := HL5.out.2.2.1.n
                    have h2 : (zs.take i).length ≤ 16384 := by rw [List.length_take]; omega
                    have h3 := Nat.mul_le_mul_right 160000 h2
                    omega
                  clear hw8 hb8 hP hQ HL5 HX7 HY7 hsum
                  go_upto_region 23 with fail
                  go_cut [18] from 90 to 93 (fun s18 wx => s18 = .bool (P || Q) ∧ Hid (w8 = wx))
                  case first =>
                    cases P <;> cases Q
                    all_goals
                      go_wp2_with fail
                      go_meet
                      exact ⟨rfl, hid rfl⟩
                  case rest =>
                    obtain ⟨rfl, hwx⟩ := hcut
                    obtain rfl := hwx.out
                    clear hwx
                    go_upto_block 8 with fail
                    go_cut [18] from 95 to 112 (fun s18 wx => s18 = .bool (kp op P Q) ∧ Hid (w8 = wx))
                    case first =>
                      by_cases o1 : op = 1
                      · have HE : Hid (kp op P Q = (P && Q)) := hid (if_pos o1)
                        have o1' : (op == 1) = true := by simpa using o1
                        clear o1
                        cases P <;> cases Q
                        all_goals
                          go_wp2_with fail
                          go_meet
                          exact ⟨by rw [HE.out]; rfl, hid rfl⟩
                      · have o1' : (op == 1) = false := by simpa using o1
                        by_cases o2 : op = 2
                        · have HE : Hid (kp op P Q = (P && !Q)) := hid (by unfold kp; rw [if_neg o1, if_pos o2])
                          have o2' : (op == 2) = true := by simpa using o2
                          clear o1 o2
                          cases P <;> cases Q
                          all_goals
                            go_wp2_with fail
                            go_meet
                            exact ⟨by rw [HE.out]; rfl, hid rfl⟩
                        · have o2' : (op == 2) = false := by simpa using o2
                          by_cases o3 : op = 3
                          · have HE : Hid (kp op P Q = (P != Q)) := hid (by unfold kp; rw [if_neg o1, if_neg o2, if_pos o3])
                            have o3' : (op == 3) = true := by simpa using o3
                            clear o1 o2 o3
                            cases P <;> cases Q
                            all_goals
                              go_wp2_with fail
                              go_meet
                              exact ⟨by rw [HE.out]; rfl, hid rfl⟩
                          · have o3' : (op == 3) = false := by simpa using o3
                            have HE : Hid (kp op P Q = (P || Q)) := hid (by unfold kp; rw [if_neg o1, if_neg o2, if_neg o3])
                            clear o1 o2 o3
                            go_wp2_with fail
                            go_meet
                            exact ⟨by rw [HE.out], hid rfl⟩
                    case rest =>
                      obtain ⟨rfl, hwx⟩ := hcut
                      obtain rfl := hwx.out
                      clear hwx
                      by_cases hKP : kp op P Q = true
                      · rw [hKP]
                        have HJ9 := hid (HJN.out hKP)
                        clear HJN HSK hKP
                        have hsum : IntKind.i64.wrap ((j : Int) + 1) = ((j + 1 : Nat) : Int) := IntWalk.i64_in _ (by omega)
                        have HWB : Hid (w5.heap.size ≤ w8.heap.size) := hid HB8.out.size
                        have hi0 : (0 : Int) ≤ (j : Int) := Int.natCast_nonneg _
                        have hi1 : (j : Int) < (S : Int) := by omega
                        have hi2 : (0 : Int) ≤ ((j + 1 : Nat) : Int) := Int.natCast_nonneg _
                        have hi3 : ((j + 1 : Nat) : Int) < (S : Int) := by omega
                        have hi4 : (0 : Int) ≤ (j : Int) + 1 := by omega
                        have hi5 : (j : Int) + 1 < (S : Int) := by omega
                        go_upto_region 32 with fail
                        go_region_held3 (fun w' => w'.cell? ⟨g13, j, none⟩ = some (.int .i64 b0) ∧ w'.cell? ⟨g13, j + 1, none⟩ = some (.int .i64 b1))
                          (first
                            | go_keep
                            | (refine ⟨?_, ?_⟩
                               · exact hg9.cellk hl13' HNE8.out d0
                               · exact hg9.cellk hl13' HNE8.out d1))
                          (first
                            | (go_at_call 68; refine (joined_any v2 out2 y b0 b1 w5.heap.size w8.drew HWB.out HO8.out hout).mono ?_; rintro e wz ⟨v3, rfl, ho9, hg9⟩))
                        clear hsum hi0 hi1 hi2 hi3 hi4 hi5
                        have HG := hid hg9
                        have HL9 := hid (show OwnR wz w5.heap.size v3 (joinR out2 y b0 b1) ∧ Below w5.heap.size w5 wz ∧ JInv (kp op) xs ys (zs.take i) 160000 y bs (j + 1) (joinR out2 y b0 b1) ∧ Ints wz (some ⟨g13, 0, none⟩) bs ∧ (∀ g, (some ⟨g13, 0, none⟩ : Option Addr) = some ⟨g, 0, none⟩ → v3.ownBlock ≠ some g) from
                          ⟨ho9, HB8.out.drew.trans (HG.out.below HWB.out (fun k hk => (HO8.out.ge k hk).1)), HJ9.out, fun hn => by
                            obtain ⟨g, e, hl, hc⟩ := HI8'.out hn
                            cases e
                            exact ⟨g13, rfl, Nat.lt_of_lt_of_le hl HG.out.size, fun i z hz => HG.out.cellk hl HNE8.out (hc i z hz)⟩, fun g hg e => by
                            cases hg
                            rcases HG.out.o _ e with h | h
                            · exact HNE8.out h
                            · have : w8.heap.size ≤ g13 := h
                              omega⟩)
                        clear ho9 hg9 d0 d1
                        go_wp2_with fail
                        go_roundw
                        case rel => exact ⟨j + 1, v3, joinR out2 y b0 b1, rfl, by omega, by go_num, HL9⟩
                        case measure => simp [intOf]; omega
                      · have hKP' : kp op P Q = false := by simpa using hKP
                        rw [hKP']
                        have HJ9 := hid (HSK.out hKP')
                        have HL9 := hid (show OwnR w8 w5.heap.size v2 out2 ∧ Below w5.heap.size w5 w8 ∧ JInv (kp op) xs ys (zs.take i) 160000 y bs (j + 1) out2 ∧ Ints w8 (some ⟨g13, 0, none⟩) bs ∧ (∀ g, (some ⟨g13, 0, none⟩ : Option Addr) = some ⟨g, 0, none⟩ → v2.ownBlock ≠ some g) from ⟨HO8.out, HB8.out, HJ9.out, HI8'.out, fun g hg => by cases hg; exact HNE8.out⟩)
                        clear HJN HSK hKP hKP' d0 d1
                        go_wp2_with fail
                        go_roundw
                        case rel => exact ⟨j + 1, v2, out2, rfl, by omega, by go_num, HL9⟩
                        case measure => simp [intOf]; omega
                · have hjj : ¬ (j : Int) + 1 < (S : Int) := by omega
                  have HRI := hid (show RInv (kp op) xs ys (zs.take (i + 1)) 160000 out2 by
                    have h1 := HL5.out.2.2.1.finish (kp0 op) HBD.out (by rw [← HSS.out]; omega) (by omega)
                    have h2 := HYI.out
                    rw [List.getElem?_eq_getElem hiz] at h2
                    rw [List.take_succ_eq_append_getElem hiz, Option.some.inj h2]
                    exact h1)
                  have HL9 := hid (show OwnR w7 w5.heap.size v2 out2 ∧ Below w5.heap.size w5 w7 ∧ RInv (kp op) xs ys (zs.take (i + 1)) 160000 out2 from ⟨HL5.out.1, HL5.out.2.1, HRI.out⟩)
                  clear hlt4
                  go_wp2_with fail
                  go_roundw
                  case rel => exact ⟨i + 1, v2, out2, rfl, by omega, by go_num, HL9⟩
                  case measure => simp [intOf]; omega
        · have HIR := hid (show i = R by omega)
          have HF := hid (show CombRes (kp op) xs ys w (.returned v) wx from ⟨v, out, rfl, (HL.out.1.mono (Nat.le_trans HB2.out.size HBr.out.size)), HL.out.2.2.done (kp0 op) (fun r hr => by
            rw [HIR.out, HRR.out, List.take_length]
            refine (HZ.out.m _).2 ⟨r, ?_, rfl⟩
            rw [HNN.out, List.take_length]
            exact hr), HB2.out.trans ((HBr.out.mono HB2.out.size).trans (HL.out.2.1.mono (Nat.le_trans HB2.out.size HBr.out.size)))⟩)
          go_wp2_with fail
          go_ret
          exact HF.out

end Go.Proofs.Ytldbpabnfjnpbaa
