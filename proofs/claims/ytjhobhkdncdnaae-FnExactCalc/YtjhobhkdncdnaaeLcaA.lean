/- Helpers for the law FnExactCalc. -/
import Derived.Test.YtjhobhkdncdnaaeOwnA
import Derived.Test.YtjhobhkdncdnaaeCalE
import Derived.Test.YtjhobhkdncdnaaeCalN
namespace Go.Proofs.Ytjhobhkdncdnaae
open Go.RowKit Go.Deep

theorem Own4.set {w : World} {g : Nat} {u0 u1 u2 u3 : Value} (h : Own4 w g u0 u1 u2 u3) (a b c d : Value) :
    Own4 ((((w.setCell ⟨g, 0, none⟩ a).setCell ⟨g, 1, none⟩ b).setCell ⟨g, 2, none⟩ c).setCell ⟨g, 3, none⟩ d) g a b c d := by
  obtain ⟨⟨hl, h0, h1, h2, h3⟩, f0, f1, f2, f3⟩ := h
  refine ⟨⟨by simpa using hl, ?_, ?_, ?_, ?_⟩, ?_, ?_, ?_, ?_⟩ <;> simp [go_sem, h0, h1, h2, h3, f0, f1, f2, f3]

theorem Own4.drew {w : World} {g : Nat} {u0 u1 u2 u3 : Value} (h : Own4 w g u0 u1 u2 u3) : Own4 w.drew g u0 u1 u2 u3 := h.below (Below.drew (Below.refl _ _))
theorem leftOf_negC {l : Int} {len : Nat} (h : l < len) : leftOf l len = -1 := by unfold leftOf; rw [if_pos h]
theorem leftOf_posC {l : Int} {len : Nat} (h : ¬ l < len) : leftOf l len = l - len := by unfold leftOf; rw [if_neg h]
theorem cell_drewC {w : World} : Below w.heap.size w w.drew := Below.drew (Below.refl _ _)
end Go.Proofs.Ytjhobhkdncdnaae
