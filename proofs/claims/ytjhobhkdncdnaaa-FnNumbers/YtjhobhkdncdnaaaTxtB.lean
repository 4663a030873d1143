/- The contracts of eqByteS, szByteS, toTerm, eqTerm, szTerm: the law's own helpers on whole terms. -/
import Derived.Test.YtjhobhkdncdnaaaTxtA
namespace Go.Proofs.Ytjhobhkdncdnaaa
open Go.RowKit Go.Deep

theorem list_eq_of (xs bs : List Int) (h : xs.length = bs.length) (H : ∀ j : Nat, j < xs.length → xs[j]?.getD 0 = bs[j]?.getD 0) : xs = bs := by
  apply List.ext_getElem h
  intro i h1 h2
  have := H i h1
  simpa [h1, h2] using this
theorem list_ne_of (xs bs : List Int) (k : Nat) (H : xs[k]?.getD 0 ≠ bs[k]?.getD 0) : xs ≠ bs := by
  intro e; subst e; exact H rfl

/-- How much is left of the room for arguments. -/
def leftOf (left : Int) (len : Nat) : Int := if left < len then -1 else left - len

theorem keep4 {u w2 : World} {a b c d : Value} {t : TypeId} (h : Below (u.alloc (.cells #[a, b, c, d] t)).heap.size (u.alloc (.cells #[a, b, c, d] t)) w2) :
    w2.cell? ⟨u.heap.size, 0, none⟩ = some a ∧ w2.cell? ⟨u.heap.size, 1, none⟩ = some b ∧ w2.cell? ⟨u.heap.size, 2, none⟩ = some c ∧ w2.cell? ⟨u.heap.size, 3, none⟩ = some d ∧ u.heap.size < w2.heap.size := by
  have e : ∀ i, w2.cell? ⟨u.heap.size, i, none⟩ = (u.alloc (.cells #[a, b, c, d] t)).cell? ⟨u.heap.size, i, none⟩ := fun i => h.cell (by simp)
  have hs := h.size
  simp at hs
  simp [e, go_sem]
  omega

end Go.Proofs.Ytjhobhkdncdnaaa
