/- Shifted paths: valid, shifted back, their bounds shifted. -/
import Derived.Test.YtbdpjdhnmllkiaaDoorMap
import Derived.Test.YtbdpjdhnmllkiaaDoorEql
namespace Go.Proofs.YtbdpjdhnmllkiaaDoor
open Go Go.RowKit
set_option linter.unusedVariables false
set_option linter.unusedSimpArgs false

abbrev shm (dx dy : Int) : Mat := ⟨4096, 0, 0, 4096, 4096 * dx, 4096 * dy⟩
def Sml (dx dy : Int) : Prop := (-3000 ≤ dx ∧ dx ≤ 3000) ∧ (-3000 ≤ dy ∧ dy ≤ 3000)
theorem Sml.neg {dx dy : Int} (h : Sml dx dy) : Sml (-dx) (-dy) := ⟨⟨by have := h.1; omega, by have := h.1; omega⟩, ⟨by have := h.2; omega, by have := h.2; omega⟩⟩
theorem wi4i {m a b c d : Int} : Af.Wi m [a, b, c, d] ↔ (-m ≤ a ∧ a ≤ m) ∧ (-m ≤ b ∧ b ≤ m) ∧ (-m ≤ c ∧ c ≤ m) ∧ (-m ≤ d ∧ d ≤ m) := wi4
theorem shm_good {dx dy : Int} (h : Sml dx dy) : Af.Good 4096 0 0 4096 (4096 * dx) (4096 * dy) := by
  obtain ⟨h1, h2⟩ := h
  exact ⟨wi4i.2 ⟨⟨by omega, by omega⟩, ⟨by omega, by omega⟩, ⟨by omega, by omega⟩, ⟨by omega, by omega⟩⟩, Af.wi2.2 ⟨⟨by omega, by omega⟩, ⟨by omega, by omega⟩⟩⟩
theorem shm_err {dx dy : Int} (h : Sml dx dy) : errMat (shm dx dy) = 0 := if_pos (shm_good h)
theorem rnd_sh (x y d : Int) : Af.rnd (4096 * x + 0 * y + 4096 * d) 4096 = x + d := by
  unfold Af.rnd
  have e : 2 * (4096 * x + 0 * y + 4096 * d) + 4096 = 4096 + (2 * 4096) * (x + d) := by rw [Int.zero_mul]; omega
  rw [e, Int.add_mul_ediv_left _ _ (by decide)]
  have : (4096 : Int) / (2 * 4096) = 0 := by decide
  omega
theorem rnd_sh' (x y d : Int) : Af.rnd (0 * x + 4096 * y + 4096 * d) 4096 = y + d := by
  rw [Int.add_comm (0 * x)]
  exact rnd_sh y x d
def In2 (x y : Int) : Prop := (-32767 ≤ x ∧ x ≤ 32767) ∧ (-32767 ≤ y ∧ y ≤ 32767)
theorem ap_sh {dx dy x y : Int} (h : Sml dx dy) (hp : In2 x y) : (In2 (x + dx) (y + dy) → ap (shm dx dy) x y = (x + dx, y + dy, 0)) ∧ (¬ In2 (x + dx) (y + dy) → ap (shm dx dy) x y = (0, 0, 10)) := by
  unfold ap
  rw [if_pos ⟨shm_good h, Af.wi2.2 hp⟩]
  show (_ → (if Af.Wi 32767 [Af.rnd (4096 * x + 0 * y + 4096 * dx) 4096, Af.rnd (0 * x + 4096 * y + 4096 * dy) 4096] then _ else _) = _) ∧ (_ → (if Af.Wi 32767 [Af.rnd (4096 * x + 0 * y + 4096 * dx) 4096, Af.rnd (0 * x + 4096 * y + 4096 * dy) 4096] then _ else _) = _)
  rw [show (shm dx dy).a * x + (shm dx dy).c * y + (shm dx dy).e = 4096 * x + 0 * y + 4096 * dx from rfl, show (shm dx dy).b * x + (shm dx dy).d * y + (shm dx dy).f = 0 * x + 4096 * y + 4096 * dy from rfl, rnd_sh, rnd_sh']
  exact ⟨fun k => if_pos (Af.wi2.2 k), fun k => if_neg (fun j => k (Af.wi2.1 j))⟩

/-- The shifted segment. -/
def sh (dx dy : Int) (s : Sg) : Sg := if s.k = 4 then s else if s.k = 3 then ⟨s.k, s.x + dx, s.y + dy, s.u + dx, s.v + dy, s.w⟩ else ⟨s.k, s.x + dx, s.y + dy, s.u, s.v, s.w⟩
theorem sh_k (dx dy : Int) (s : Sg) : (sh dx dy s).k = s.k := by unfold sh; split; rfl; split <;> rfl
theorem Okay.xy {s : Sg} (h : Okay s) : In2 s.x s.y := ⟨(wi4.1 h.r).1, (wi4.1 h.r).2.1⟩
theorem Okay.uv {s : Sg} (h : Okay s) : In2 s.u s.v := ⟨(wi4.1 h.r).2.2.1, (wi4.1 h.r).2.2.2⟩
theorem mapR_sh {dx dy : Int} {s : Sg} (h : Sml dx dy) (hs : Okay s) : (mapR (shm dx dy) s = (sh dx dy s, 0) ∧ Okay (sh dx dy s)) ∨ (mapR (shm dx dy) s).2 = 10 := by
  unfold mapR sh
  by_cases h4 : s.k = 4
  · rw [if_pos h4, if_pos h4]; exact .inl ⟨rfl, hs⟩
  · rw [if_neg h4, if_neg h4]
    obtain ⟨a1, a2⟩ := ap_sh h hs.xy
    by_cases hp : In2 (s.x + dx) (s.y + dy)
    · rw [a1 hp, if_neg (fun k => k rfl)]
      by_cases h3 : s.k = 3
      · rw [if_pos h3, if_pos h3]
        obtain ⟨b1, b2⟩ := ap_sh h hs.uv
        by_cases hq : In2 (s.u + dx) (s.v + dy)
        · rw [b1 hq, if_neg (fun k => k rfl)]
          refine .inl ⟨rfl, hs.k, ?_, wi4.2 ⟨hp.1, hp.2, hq.1, hq.2⟩, hs.w⟩
          unfold mean
          rw [if_pos h3]
        · rw [b2 hq, if_pos (by decide)]
          exact .inr rfl
      · rw [if_neg h3, if_neg h3]
        refine .inl ⟨rfl, hs.k, ?_, wi4.2 ⟨hp.1, hp.2, hs.uv.1, hs.uv.2⟩, hs.w⟩
        have e := hs.m
        unfold mean at e ⊢
        rw [if_neg h3, if_neg h4] at e
        rw [if_neg h3, if_neg h4]
        have e1 : s.u = 0 := congrArg Sg.u e
        have e2 : s.v = 0 := congrArg Sg.v e
        have e3 : s.w = 0 := congrArg Sg.w e
        rw [e1, e2, e3]
    · rw [a2 hp, if_pos (by decide)]
      exact .inr rfl
theorem mapR_back {dx dy : Int} {s : Sg} (h : Sml dx dy) (hs : Okay s) (hq : Okay (sh dx dy s)) : mapR (shm (-dx) (-dy)) (sh dx dy s) = (s, 0) := by
  have hx := hq.xy
  have hu := hq.uv
  have hx0 := hs.xy
  have hu0 := hs.uv
  clear hq
  unfold mapR
  rw [sh_k]
  by_cases h4 : s.k = 4
  · rw [if_pos h4]; unfold sh; rw [if_pos h4]
  · rw [if_neg h4]
    by_cases h3 : s.k = 3
    · have e : sh dx dy s = ⟨s.k, s.x + dx, s.y + dy, s.u + dx, s.v + dy, s.w⟩ := by unfold sh; rw [if_neg h4, if_pos h3]
      rw [e] at hx hu ⊢
      simp only at hx hu ⊢
      rw [(ap_sh h.neg hx).1 (by rw [show s.x + dx + -dx = s.x by omega, show s.y + dy + -dy = s.y by omega]; exact hx0), if_neg (fun k => k rfl), if_pos h3, (ap_sh h.neg hu).1 (by rw [show s.u + dx + -dx = s.u by omega, show s.v + dy + -dy = s.v by omega]; exact hu0), if_neg (fun k => k rfl)]
      rw [show s.x + dx + -dx = s.x by omega, show s.y + dy + -dy = s.y by omega, show s.u + dx + -dx = s.u by omega, show s.v + dy + -dy = s.v by omega]
    · have e : sh dx dy s = ⟨s.k, s.x + dx, s.y + dy, s.u, s.v, s.w⟩ := by unfold sh; rw [if_neg h4, if_neg h3]
      rw [e] at hx hu ⊢
      simp only at hx hu ⊢
      rw [(ap_sh h.neg hx).1 (by rw [show s.x + dx + -dx = s.x by omega, show s.y + dy + -dy = s.y by omega]; exact hx0), if_neg (fun k => k rfl), if_neg h3]
      rw [show s.x + dx + -dx = s.x by omega, show s.y + dy + -dy = s.y by omega]

theorem mapErr_zero {m : Mat} : ∀ {ss : List Sg}, mapErr m ss = 0 → ∀ s ∈ ss, (mapR m s).2 = 0
  | g :: r, h, s, hs => by
    rw [mapErr] at h
    by_cases e : (mapR m g).2 = 0
    · rw [if_pos e] at h
      rcases List.mem_cons.1 hs with rfl | hs
      · exact e
      · exact mapErr_zero h s hs
    · rw [if_neg e] at h; exact absurd h e
theorem mapErr_all {m : Mat} : ∀ {ss : List Sg}, (∀ s ∈ ss, (mapR m s).2 = 0) → mapErr m ss = 0
  | [], _ => rfl
  | g :: r, h => by rw [mapErr, if_pos (h g (by simp))]; exact mapErr_all fun s hs => h s (by simp [hs])
theorem mapErr_one {m : Mat} {e : Int} : ∀ {ss : List Sg}, (∀ s ∈ ss, (mapR m s).2 = 0 ∨ (mapR m s).2 = e) → mapErr m ss = 0 ∨ mapErr m ss = e
  | [], _ => .inl rfl
  | g :: r, h => by
    rw [mapErr]
    by_cases k : (mapR m g).2 = 0
    · rw [if_pos k]; exact mapErr_one fun s hs => h s (by simp [hs])
    · rw [if_neg k]
      rcases h g (by simp) with h1 | h1
      · exact absurd h1 k
      · exact .inr h1

theorem chkAll_sh {dx dy : Int} : ∀ {ss : List Sg} {o : Bool}, chkAll o ss = 0 → (∀ s ∈ ss, Okay (sh dx dy s)) → chkAll o (ss.map (sh dx dy)) = 0
  | [], _, _, _ => rfl
  | s :: r, o, h, hk => by
    obtain ⟨h1, h2⟩ := chkAll_step h
    have h3 := (okay_of h1).2
    rw [List.map_cons, chkAll, if_pos ((hk s (by simp)).chk (by rw [sh_k]; exact h3)), sh_k]
    exact chkAll_sh h2 fun g hg => hk g (by simp [hg])

def Bx.sh (dx dy : Int) (k : Bx) : Bx := ⟨k.a + dx, k.b + dy, k.c + dx, k.d + dy⟩
theorem all_sh (dx dy : Int) : ∀ (ps : List (Int × Int)) (k : Bx), (k.sh dx dy).all (ps.map fun p => (p.1 + dx, p.2 + dy)) = (k.all ps).sh dx dy
  | [], _ => rfl
  | p :: r, k => by
    have e : (k.sh dx dy).add (p.1 + dx, p.2 + dy) = (k.add p).sh dx dy := by
      refine Bx.ext' ⟨?_, ?_, ?_, ?_⟩ <;> simp only [Bx.add, Bx.sh] <;> omega
    show ((k.sh dx dy).add (p.1 + dx, p.2 + dy)).all _ = ((k.add p).all r).sh dx dy
    rw [e]
    exact all_sh dx dy r _
theorem pts_sh (dx dy : Int) (s : Sg) : pts (sh dx dy s) = (pts s).map fun p => (p.1 + dx, p.2 + dy) := by
  unfold pts
  rw [sh_k]
  by_cases h3 : s.k = 3
  · rw [if_pos h3, if_pos h3]
    unfold sh
    rw [if_neg (by omega), if_pos h3]
    rfl
  · rw [if_neg h3, if_neg h3]
    by_cases h4 : s.k = 4
    · rw [if_pos h4, if_pos h4]; rfl
    · rw [if_neg h4, if_neg h4]
      unfold sh
      rw [if_neg h4, if_neg h3]
      rfl
theorem flat_sh (dx dy : Int) : ∀ ss : List Sg, (ss.map (sh dx dy)).flatMap pts = (ss.flatMap pts).map fun p => (p.1 + dx, p.2 + dy)
  | [] => rfl
  | s :: r => by rw [List.map_cons, List.flatMap_cons, List.flatMap_cons, List.map_append, pts_sh, flat_sh dx dy r]
theorem bnds_sh {dx dy : Int} {ss : List Sg} (hok : chk ss = 0) (hl : 0 < ss.length) : bnds (ss.map (sh dx dy)) = (bnds ss).sh dx dy := by
  have hk := first_move hok hl
  unfold bnds
  rw [flat_sh, ← all_sh]
  have e : sg (ss.map (sh dx dy)) 0 = sh dx dy (sg ss 0) := by
    cases ss with
    | nil => simp at hl
    | cons s r => rfl
  have e2 : sh dx dy (sg ss 0) = ⟨(sg ss 0).k, (sg ss 0).x + dx, (sg ss 0).y + dy, (sg ss 0).u, (sg ss 0).v, (sg ss 0).w⟩ := by unfold sh; rw [if_neg (by omega), if_neg (by omega)]
  rw [e, e2]
  rfl

def Bx.In (k : Bx) : Prop := In2 k.a k.b ∧ In2 k.c k.d
theorem all_in : ∀ (ps : List (Int × Int)) (k : Bx), k.In → (∀ p ∈ ps, In2 p.1 p.2) → (k.all ps).In
  | [], _, h, _ => h
  | p :: r, k, h, hp => by
    refine all_in r (k.add p) ?_ fun q hq => hp q (by simp [hq])
    have h1 := hp p (by simp)
    obtain ⟨⟨⟨a1, a2⟩, ⟨a3, a4⟩⟩, ⟨⟨a5, a6⟩, ⟨a7, a8⟩⟩⟩ := h
    obtain ⟨⟨b1, b2⟩, ⟨b3, b4⟩⟩ := h1
    refine ⟨⟨⟨?_, ?_⟩, ⟨?_, ?_⟩⟩, ⟨⟨?_, ?_⟩, ⟨?_, ?_⟩⟩⟩ <;> simp only [Bx.add] <;> omega
theorem bnds_in {ss : List Sg} (hok : chk ss = 0) (hl : 0 < ss.length) : (bnds ss).In := by
  have h0 := (okay_of (sg_okay hok hl)).1
  refine all_in _ _ ⟨h0.xy, h0.xy⟩ fun p hp => ?_
  obtain ⟨s, hs, hp⟩ := List.mem_flatMap.1 hp
  have hk := chk_okay hok s hs
  unfold pts at hp
  split at hp
  · rcases List.mem_cons.1 hp with rfl | hp
    · exact hk.uv
    · rcases List.mem_cons.1 hp with rfl | hp
      · exact hk.xy
      · cases hp
  · split at hp
    · cases hp
    · rcases List.mem_cons.1 hp with rfl | hp
      · exact hk.xy
      · cases hp

/-! ### the statement's cases -/
/-- A shift of a valid path that goes: its path, the way back, the bounds. -/
structure Goes (dx dy : Int) (ss : List Sg) : Prop where
  e1 : mE (shm dx dy) ss = 0
  s1 : mS (shm dx dy) ss = ss.map (sh dx dy)
  c1 : chk (ss.map (sh dx dy)) = 0
  e2 : mE (shm (-dx) (-dy)) (ss.map (sh dx dy)) = 0
  s2 : mS (shm (-dx) (-dy)) (ss.map (sh dx dy)) = ss
  b : 0 < ss.length → bE ss = 0 ∧ bE (ss.map (sh dx dy)) = 0 ∧ bB ss = bnds ss ∧ bB (ss.map (sh dx dy)) = (bnds ss).sh dx dy ∧ (bnds ss).In
theorem moves {dx dy : Int} {ss : List Sg} (h : Sml dx dy) (hok : chk ss = 0) : Goes dx dy ss ∨ mE (shm dx dy) ss = 10 := by
  have e0 : mE (shm dx dy) ss = mapErr (shm dx dy) ss := by
    unfold mE
    rw [if_neg (fun k => k hok), if_neg (fun k => k (shm_err h))]
  have hone := mapErr_one (m := shm dx dy) (e := 10) (ss := ss) fun s hs => by
    rcases mapR_sh h (chk_okay hok s hs) with ⟨k, _⟩ | k
    · rw [k]; exact .inl rfl
    · exact .inr k
  rcases hone with h0 | h0
  · left
    have hz := mapErr_zero h0
    have hsh : ∀ s ∈ ss, mapR (shm dx dy) s = (sh dx dy s, 0) ∧ Okay (sh dx dy s) := fun s hs => by
      rcases mapR_sh h (chk_okay hok s hs) with k | k
      · exact k
      · rw [hz s hs] at k; cases k
    have hS : mS (shm dx dy) ss = ss.map (sh dx dy) := by
      unfold mS
      rw [if_pos (e0.trans h0)]
      exact List.map_congr_left fun s hs => congrArg Prod.fst (hsh s hs).1
    have hc : chk (ss.map (sh dx dy)) = 0 := by
      unfold chk
      rw [List.length_map, if_neg (by have := chk_le hok; omega)]
      exact chkAll_sh (chk_all hok) fun s hs => (hsh s hs).2
    have hb : ∀ q ∈ ss.map (sh dx dy), (mapR (shm (-dx) (-dy)) q).2 = 0 := fun q hq => by
      obtain ⟨s, hs, rfl⟩ := List.mem_map.1 hq
      rw [mapR_back h (chk_okay hok s hs) (hsh s hs).2]
    have hE2 : mE (shm (-dx) (-dy)) (ss.map (sh dx dy)) = 0 := by
      unfold mE
      rw [if_neg (fun k => k hc), if_neg (fun k => k (shm_err h.neg))]
      exact mapErr_all hb
    have hS2 : mS (shm (-dx) (-dy)) (ss.map (sh dx dy)) = ss := by
      unfold mS
      rw [if_pos hE2, List.map_map]
      have : ∀ s ∈ ss, (im (shm (-dx) (-dy)) ∘ sh dx dy) s = s := fun s hs => congrArg Prod.fst (mapR_back h (chk_okay hok s hs) (hsh s hs).2)
      rw [List.map_congr_left this]
      exact List.map_id' ss
    refine ⟨e0.trans h0, hS, hc, hE2, hS2, fun hl => ?_⟩
    have hne : ¬ ss = [] := List.length_pos_iff.1 hl
    have hne2 : ¬ ss.map (sh dx dy) = [] := fun e => hne (List.map_eq_nil_iff.1 e)
    have e1 : bE ss = 0 := by unfold bE; rw [if_neg (fun k => k hok), if_neg hne]
    have e2 : bE (ss.map (sh dx dy)) = 0 := by unfold bE; rw [if_neg (fun k => k hc), if_neg hne2]
    refine ⟨e1, e2, by unfold bB; rw [if_pos e1], ?_, bnds_in hok hl⟩
    unfold bB
    rw [if_pos e2, bnds_sh hok hl]
  · exact .inr (e0.trans h0)

theorem map_sh (A : Option Addr) (ss : List Sg) (n c : Nat) (dx dy : Int) (w : World) (hn : n = ss.length) (hs : Segs w A ss) :
    Calls Tryd.prog 22 #[.slice A n c, mx 4096 0 0 4096 (4096 * dx) (4096 * dy)] w fun e w' => (∃ A' n' c', e = .returned (.tuple #[.slice A' n' c', .int .i64 (mE (shm dx dy) ss)]) ∧ n' = (mS (shm dx dy) ss).length ∧ Segs w' A' (mS (shm dx dy) ss)) ∧ Below w.heap.size w w' :=
  map_any A ss n c (shm dx dy) w hn hs
theorem shift_sml (dx dy : Int) (w : World) (h : Sml dx dy) :
    Calls Tryd.prog 21 #[.int .i64 dx, .int .i64 dy] w fun e w' => e = .returned (.tuple #[mx 4096 0 0 4096 (4096 * dx) (4096 * dy), .int .i64 0]) ∧ Below w.heap.size w w' :=
  Af.shift_ok dx dy w (Af.wi2.2 ⟨⟨by have := h.1; omega, by have := h.1; omega⟩, ⟨by have := h.2; omega, by have := h.2; omega⟩⟩)

end Go.Proofs.YtbdpjdhnmllkiaaDoor
