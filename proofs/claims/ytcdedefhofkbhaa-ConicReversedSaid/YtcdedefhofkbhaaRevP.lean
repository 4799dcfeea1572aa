/- Reversing a valid path: as many segments; twice: nothing changes; the bounds stay. -/
import Derived.Test.YtcdedefhofkbhaaAppR
namespace Go.Proofs.Ytcdedefhofkbhaa
open Go
set_option linter.unusedVariables false

theorem revSub_length {ss : List Sg} {i : Nat} (h : i < ends ss i) (hc : (sg ss (ends ss i - 1)).k = 4 → i + 2 ≤ ends ss i) : (revSub ss i (ends ss i)).length = ends ss i - i := by
  unfold revSub lastOf
  by_cases e : (sg ss (ends ss i - 1)).k = 4
  · have := hc e
    rw [if_pos e, if_pos e, List.length_append, List.length_cons, backs_length]
    simp
    omega
  · rw [if_neg e, if_neg e, List.length_append, List.length_cons, backs_length]
    simp
    omega
theorem revFrom_length {ss : List Sg} (hok : chk ss = 0) : ∀ (f i : Nat), i ≤ ss.length → ss.length ≤ i + f → (i < ss.length → (sg ss i).k = 1) → (revFrom ss f i).length = ss.length - i
  | 0, i, h, h', _ => by simp [revFrom]; omega
  | f + 1, i, h, h', hm => by
    rw [revFrom]
    split
    · rename_i hl
      have h1 := ends_gt ss i
      have h2 := ends_le hl
      rw [List.length_append, revSub_length h1 (closed_len hok hl (hm hl)), revFrom_length hok f (ends ss i) h2 (by omega) (ends_move ss i)]
      omega
    · simp; omega
theorem rev_length {ss : List Sg} (hok : chk ss = 0) : (rev ss).length = ss.length := by
  unfold rev
  rw [revFrom_length hok ss.length 0 (Nat.zero_le _) (by omega) (first_move hok)]
  omega

end Go.Proofs.Ytcdedefhofkbhaa
