/- Shifted paths: valid, shifted back, their bounds shifted. -/
import Derived.Test.YtcdedefhofkbhaaMap
import Derived.Test.YtcdedefhofkbhaaWords
import Derived.Test.YtcdedefhofkbhaaLnM
import Derived.Test.YtcdedefhofkbhaaEnds
namespace Go.Proofs.Ytcdedefhofkbhaa
open Go Go.RowKit
set_option linter.unusedVariables false
set_option linter.unusedSimpArgs false

abbrev shm (dx dy : Int) : Mat := ⟨4096, 0, 0, 4096, 4096 * dx, 4096 * dy⟩
def Sml (dx dy : Int) : Prop := (-3000 ≤ dx ∧ dx ≤ 3000) ∧ (-3000 ≤ dy ∧ dy ≤ 3000)
theorem Sml.neg {dx dy : Int} (h : Sml dx dy) : Sml (-dx) (-dy) := ⟨⟨by have := h.1; omega, by have := h.1; omega⟩, ⟨by have := h.2; omega, by have := h.2; omega⟩⟩
theorem wi4i {m a b c d : Int} : Af.Wi m [a, b, c, d] ↔ (-m ≤ a ∧ a ≤ m) ∧ (-m ≤ b ∧ b ≤ m) ∧ (-m ≤ c ∧ c ≤ m) ∧ (-m ≤ d ∧ d ≤ m) := wi4
theorem shm_good {dx dy : Int} (h : Sml dx dy) : Af.Good 4096 0 0 4096 (4096 * dx) (4096 * dy) := by
  obtain ⟨h1, h2⟩ := h
  exact ⟨wi4i.2 ⟨⟨by omega, by omega⟩, ⟨by omega, by omega⟩, ⟨by omega, by omega⟩, ⟨by omega, by omega⟩⟩, Af.wi2.2 ⟨⟨by omega, by omega⟩, ⟨by omega, by omega⟩⟩⟩
theorem shm_err {dx dy : Int} (h : Sml dx dy) : errMat (shm dx dy) = 0 := if_pos (shm_good h)
theorem rnd_sh (x y d : Int) : Af.rnd (4096 * x + 0 * y + 4096 * d) 4096 = x + d := by
  unfold Af.rnd
  have e : 2 * (4096 * x + 0 * y + 4096 * d) + 4096 = 4096 + (2 * 4096) * (x + d) := by rw [Int.zero_mul]; omega
  rw [e, Int.add_mul_ediv_left _ _ (by decide)]
  have : (4096 : Int) / (2 * 4096) = 0 := by decide
  omega
theorem rnd_sh' (x y d : Int) : Af.rnd (0 * x + 4096 * y + 4096 * d) 4096 = y + d := by
  rw [Int.add_comm (0 * x)]
  exact rnd_sh y x d
def In2 (x y : Int) : Prop := (-32767 ≤ x ∧ x ≤ 32767) ∧ (-32767 ≤ y ∧ y ≤ 32767)
theorem ap_sh {dx dy x y : Int} (h : Sml dx dy) (hp : In2 x y) : (In2 (x + dx) (y + dy) → ap (shm dx dy) x y = (x + dx, y + dy, 0)) ∧ (¬ In2 (x + dx) (y + dy) → ap (shm dx dy) x y = (0, 0, 10)) := by
  unfold ap
  rw [if_pos ⟨shm_good h, Af.wi2.2 hp⟩]
  show (_ → (if Af.Wi 32767 [Af.rnd (4096 * x + 0 * y + 4096 * dx) 4096, Af.rnd (0 * x + 4096 * y + 4096 * dy) 4096] then _ else _) = _) ∧ (_ → (if Af.Wi 32767 [Af.rnd (4096 * x + 0 * y + 4096 * dx) 4096, Af.rnd (0 * x + 4096 * y + 4096 * dy) 4096] then _ else _) = _)
  rw [show (shm dx dy).a * x + (shm dx dy).c * y + (shm dx dy).e = 4096 * x + 0 * y + 4096 * dx from rfl, show (shm dx dy).b * x + (shm dx dy).d * y + (shm dx dy).f = 0 * x + 4096 * y + 4096 * dy from rfl, rnd_sh, rnd_sh']
  exact ⟨fun k => if_pos (Af.wi2.2 k), fun k => if_neg (fun j => k (Af.wi2.1 j))⟩

/-- The shifted segment. -/
def sh (dx dy : Int) (s : Sg) : Sg := if s.k = 4 then s else if s.k = 3 then ⟨s.k, s.x + dx, s.y + dy, s.u + dx, s.v + dy, s.w⟩ else ⟨s.k, s.x + dx, s.y + dy, s.u, s.v, s.w⟩
theorem sh_k (dx dy : Int) (s : Sg) : (sh dx dy s).k = s.k := by unfold sh; split; rfl; split <;> rfl
theorem Okay.xy {s : Sg} (h : Okay s) : In2 s.x s.y := ⟨(wi4.1 h.r).1, (wi4.1 h.r).2.1⟩
theorem Okay.uv {s : Sg} (h : Okay s) : In2 s.u s.v := ⟨(wi4.1 h.r).2.2.1, (wi4.1 h.r).2.2.2⟩
theorem mapR_sh {dx dy : Int} {s : Sg} (h : Sml dx dy) (hs : Okay s) : (mapR (shm dx dy) s = (sh dx dy s, 0) ∧ Okay (sh dx dy s)) ∨ (mapR (shm dx dy) s).2 = 10 := by
  unfold mapR sh
  by_cases h4 : s.k = 4
  · rw [if_pos h4, if_pos h4]; exact .inl ⟨rfl, hs⟩
  · rw [if_neg h4, if_neg h4]
    obtain ⟨a1, a2⟩ := ap_sh h hs.xy
    by_cases hp : In2 (s.x + dx) (s.y + dy)
    · rw [a1 hp, if_neg (fun k => k rfl)]
      by_cases h3 : s.k = 3
      · rw [if_pos h3, if_pos h3]
        obtain ⟨b1, b2⟩ := ap_sh h hs.uv
        by_cases hq : In2 (s.u + dx) (s.v + dy)
        · rw [b1 hq, if_neg (fun k => k rfl)]
          refine .inl ⟨rfl, hs.k, ?_, wi4.2 ⟨hp.1, hp.2, hq.1, hq.2⟩, hs.w⟩
          unfold mean
          rw [if_pos h3]
        · rw [b2 hq, if_pos (by decide)]
          exact .inr rfl
      · rw [if_neg h3, if_neg h3]
        refine .inl ⟨rfl, hs.k, ?_, wi4.2 ⟨hp.1, hp.2, hs.uv.1, hs.uv.2⟩, hs.w⟩
        have e := hs.m
        unfold mean at e ⊢
        rw [if_neg h3, if_neg h4] at e
        rw [if_neg h3, if_neg h4]
        have e1 : s.u = 0 := congrArg Sg.u e
        have e2 : s.v = 0 := congrArg Sg.v e
        have e3 : s.w = 0 := congrArg Sg.w e
        rw [e1, e2, e3]
    · rw [a2 hp, if_pos (by decide)]
      exact .inr rfl
theorem mapErr_zero {m : Mat} : ∀ {ss : List Sg}, mapErr m ss = 0 → ∀ s ∈ ss, (mapR m s).2 = 0
  | g :: r, h, s, hs => by
    rw [mapErr] at h
    by_cases e : (mapR m g).2 = 0
    · rw [if_pos e] at h
      rcases List.mem_cons.1 hs with rfl | hs
      · exact e
      · exact mapErr_zero h s hs
    · rw [if_neg e] at h; exact absurd h e
theorem mapErr_all {m : Mat} : ∀ {ss : List Sg}, (∀ s ∈ ss, (mapR m s).2 = 0) → mapErr m ss = 0
  | [], _ => rfl
  | g :: r, h => by rw [mapErr, if_pos (h g (by simp))]; exact mapErr_all fun s hs => h s (by simp [hs])
theorem mapErr_one {m : Mat} {e : Int} : ∀ {ss : List Sg}, (∀ s ∈ ss, (mapR m s).2 = 0 ∨ (mapR m s).2 = e) → mapErr m ss = 0 ∨ mapErr m ss = e
  | [], _ => .inl rfl
  | g :: r, h => by
    rw [mapErr]
    by_cases k : (mapR m g).2 = 0
    · rw [if_pos k]; exact mapErr_one fun s hs => h s (by simp [hs])
    · rw [if_neg k]
      rcases h g (by simp) with h1 | h1
      · exact absurd h1 k
      · exact .inr h1

theorem Okay.chkV {s : Sg} {o : Bool} (h : Okay s) (ho : o = true ∨ s.k = 1) : chkSeg s o = 0 := by
  unfold chkSeg
  have hk := h.k
  rw [if_neg (by omega), if_neg (by rintro ⟨e, e'⟩; subst e; rcases ho with ho | ho; cases ho; exact e' ho), if_neg (fun e => e h.m), if_neg (fun e => e h.r), if_neg (by rintro ⟨e, e'⟩; have := h.w e; omega)]

theorem chkAll_sh {dx dy : Int} : ∀ {ss : List Sg} {o : Bool}, chkAll o ss = 0 → (∀ s ∈ ss, Okay (sh dx dy s)) → chkAll o (ss.map (sh dx dy)) = 0
  | [], _, _, _ => rfl
  | s :: r, o, h, hk => by
    obtain ⟨h1, h2⟩ := chkAll_step h
    have h3 := (okay_of h1).2
    rw [List.map_cons, chkAll, if_pos ((hk s (by simp)).chkV (by rw [sh_k]; exact h3)), sh_k]
    exact chkAll_sh h2 fun g hg => hk g (by simp [hg])

/-- A shift of a valid path that goes: the shifted path is valid. -/
theorem moved {dx dy : Int} {ss : List Sg} (h : Sml dx dy) (hok : chk ss = 0) : (mE (shm dx dy) ss = 0 ∧ mS (shm dx dy) ss = ss.map (sh dx dy) ∧ chk (ss.map (sh dx dy)) = 0) ∨ mE (shm dx dy) ss ≠ 0 := by
  by_cases e : mE (shm dx dy) ss = 0
  · left
    have e0 : mE (shm dx dy) ss = mapErr (shm dx dy) ss := by
      unfold mE
      rw [if_neg (fun k => k hok), if_neg (fun k => k (shm_err h))]
    have hz := mapErr_zero (e0.symm.trans e)
    have hsh : ∀ s ∈ ss, mapR (shm dx dy) s = (sh dx dy s, 0) ∧ Okay (sh dx dy s) := fun s hs => by
      rcases mapR_sh h (chk_okay hok s hs) with k | k
      · exact k
      · rw [hz s hs] at k; cases k
    refine ⟨e, ?_, ?_⟩
    · unfold mS
      rw [if_pos e]
      exact List.map_congr_left fun s hs => congrArg Prod.fst (hsh s hs).1
    · unfold chk
      rw [List.length_map, if_neg (by have := chk_le hok; omega)]
      exact chkAll_sh (chk_all hok) fun s hs => (hsh s hs).2
  · exact .inr e
theorem moved_bad {m : Mat} {ss : List Sg} (h : chk ss ≠ 0) : mE m ss ≠ 0 := by
  unfold mE
  rw [if_pos h]
  exact h
def shLn (dx dy : Int) (l : Ln) : Ln := ⟨l.ps.map (·.sh dx dy), l.cl⟩
theorem lastP_sh {dx dy : Int} {l : Ln} (h : 0 < l.ps.length) : lastP (shLn dx dy l) = (lastP l).sh dx dy := by
  unfold lastP shLn
  obtain ⟨ps, cl⟩ := l
  simp only at h ⊢
  rw [List.getLastD_eq_getLast?, List.getLastD_eq_getLast?, List.getLast?_map]
  cases e : ps.getLast? with
  | none => rw [List.getLast?_eq_none_iff.1 e] at h; simp at h
  | some p => rfl
theorem replP_sh {dx dy : Int} {p : P2} {s : Sg} (h : s.k = 2 ∨ s.k = 3 ∧ InC (cuOf p s)) : replP (p.sh dx dy) (sh dx dy s) = (replP p s).map (·.sh dx dy) := by
  unfold replP
  rw [sh_k]
  rcases h with h | ⟨h, hc⟩
  · rw [if_pos h, if_pos h]
    unfold sh
    rw [if_neg (by omega), if_neg (by omega)]
    rfl
  · rw [if_neg (by omega), if_neg (by omega), ← Go.Proofs.Ytcdedefhofkbhaa.pts_sh hc.w]
    unfold sh
    rw [if_neg (by omega), if_pos h]
    rfl
theorem flatL_sh {dx dy : Int} {ss : List Sg} (h : chk ss = 0) : ∀ k, k ≤ ss.length → flatL ((ss.map (sh dx dy)).take k) = (flatL (ss.take k)).map (shLn dx dy)
  | 0, _ => rfl
  | k + 1, hk => by
    have hkl : k < ss.length := by omega
    have hkl' : k < (ss.map (sh dx dy)).length := by simp; omega
    have ho := chk_okay h ss[k] (List.getElem_mem hkl)
    rw [flatL_take hkl', flatL_take hkl, flatL_sh h k (by omega), List.getElem_map]
    by_cases h1 : ss[k].k = 1
    · rw [addL_move _ h1, addL_move _ (by rw [sh_k]; exact h1), List.map_append]
      congr 1
      unfold sh
      rw [if_neg (by omega), if_neg (by omega)]
      rfl
    · have hk0 : 0 < k := by
        rcases Nat.eq_zero_or_pos k with e | e
        · subst e; exact absurd (chk_first h (by omega)) h1
        · exact e
      obtain ⟨ls, l, e1, e2⟩ := flat_ok h k (by omega) hk0
      rw [e1, List.map_append, List.map_cons, List.map_nil, addL_last _ _ (by rw [sh_k]; exact h1), addL_last _ _ h1, List.map_append, List.map_cons, List.map_nil]
      congr 2
      unfold updL
      rw [sh_k]
      by_cases h4 : ss[k].k = 4
      · rw [if_pos h4, if_pos h4]; rfl
      · rw [if_neg h4, if_neg h4, lastP_sh e2.p, replP_sh (inc_of e2.i ho h1 h4)]
        unfold shLn
        simp
theorem replP_in {p : P2} {s : Sg} (hp : In3 p) (hs : Okay s) (h1 : s.k ≠ 1) (h4 : s.k ≠ 4) : ∀ q ∈ replP p s, In3 q := by
  intro q hq
  unfold replP at hq
  rcases inc_of hp hs h1 h4 with h | ⟨h, hc⟩
  · rw [if_pos h] at hq
    rcases List.mem_singleton.1 hq with rfl
    exact okay_in hs
  · rw [if_neg (by omega)] at hq
    unfold Cu.pts at hq
    obtain ⟨k, hk, rfl⟩ := List.mem_map.1 hq
    have hd := dv_bd (cuOf p s)
    have hkd := List.mem_range.1 hk
    exact at_in hc (inK hc.w hd.1 (show (cuOf p s).dv ≤ 1024 by omega) (show k + 1 ≤ (cuOf p s).dv from hkd))
theorem flat_in {ss : List Sg} (h : chk ss = 0) : ∀ k, k ≤ ss.length → ∀ l ∈ flatL (ss.take k), 0 < l.ps.length ∧ ∀ p ∈ l.ps, In3 p
  | 0, _ => fun l hl => by simp [flatL] at hl
  | k + 1, hk => by
    have hkl : k < ss.length := by omega
    have ho := chk_okay h ss[k] (List.getElem_mem hkl)
    have ih := flat_in h k (by omega)
    rw [flatL_take hkl]
    by_cases h1 : ss[k].k = 1
    · rw [addL_move _ h1]
      intro l hl
      rcases List.mem_append.1 hl with hl | hl
      · exact ih l hl
      · rw [List.mem_singleton] at hl
        subst hl
        exact ⟨by simp, fun p hp => by rcases List.mem_singleton.1 hp with rfl; exact okay_in ho⟩
    · have hk0 : 0 < k := by
        rcases Nat.eq_zero_or_pos k with e | e
        · subst e; exact absurd (chk_first h (by omega)) h1
        · exact e
      obtain ⟨ls, l, e1, e2⟩ := flat_ok h k (by omega) hk0
      rw [e1] at ih ⊢
      rw [addL_last _ _ h1]
      intro x hx
      rcases List.mem_append.1 hx with hx | hx
      · exact ih x (List.mem_append_left _ hx)
      · rw [List.mem_singleton] at hx
        subst hx
        have hl := ih l (List.mem_append_right _ (by simp))
        unfold updL
        by_cases h4 : ss[k].k = 4
        · rw [if_pos h4]; exact hl
        · rw [if_neg h4]
          refine ⟨by have := hl.1; simp; omega, fun p hp => ?_⟩
          rcases List.mem_append.1 hp with hp | hp
          · exact hl.2 p hp
          · exact replP_in e2.i ho h1 h4 p hp
theorem map_sh (A : Option Addr) (ss : List Sg) (n c : Nat) (dx dy : Int) (w : World) (hn : n = ss.length) (hs : Segs w A ss) :
    Calls Try.prog 19 #[.slice A n c, mx 4096 0 0 4096 (4096 * dx) (4096 * dy)] w fun e w' => (∃ A' n' c', e = .returned (.tuple #[.slice A' n' c', .int .i64 (mE (shm dx dy) ss)]) ∧ n' = (mS (shm dx dy) ss).length ∧ Segs w' A' (mS (shm dx dy) ss)) ∧ Below w.heap.size w w' :=
  map_any A ss n c (shm dx dy) w hn hs
theorem shift_sml (dx dy : Int) (w : World) (h : Sml dx dy) :
    Calls Try.prog 18 #[.int .i64 dx, .int .i64 dy] w fun e w' => e = .returned (.tuple #[mx 4096 0 0 4096 (4096 * dx) (4096 * dy), .int .i64 0]) ∧ Below w.heap.size w w' :=
  Af.shift_ok dx dy w (Af.wi2.2 ⟨⟨by have := h.1; omega, by have := h.1; omega⟩, ⟨by have := h.2; omega, by have := h.2; omega⟩⟩)

end Go.Proofs.Ytcdedefhofkbhaa
