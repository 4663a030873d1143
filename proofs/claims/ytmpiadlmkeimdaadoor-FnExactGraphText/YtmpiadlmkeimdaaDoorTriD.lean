/- The law FnExactTripleOk walked. -/
import Derived.Test.YtmpiadlmkeimdaaDoorTriC
import Derived.Deep.RegionHeld3
namespace Go.Proofs.YtmpiadlmkeimdaaDoor
open Go.RowKit Go.Deep

theorem left3_pos {l : Int} {t u v : Tm} (h : ¬ left3 l t u v < 0) : (t.len : Int) + u.len + v.len ≤ l ∧ left3 l t u v = l - t.len - u.len - v.len := by
  unfold left3 at h ⊢
  split at h
  · omega
  · split at h
    · omega
    · split at h
      · omega
      · rename_i a b c
        rw [if_neg a, if_neg b, if_neg c]
        omega
theorem bl_drew1 {w : World} : Below w.heap.size w w.drew := Below.drew (Below.refl _ _)

end Go.Proofs.YtmpiadlmkeimdaaDoor
