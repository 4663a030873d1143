import Derived.Test.YtoloadogihbdeaaGreatMk05
namespace Go.Proofs.YtoloadogihbdeaaGreat
open Go.RowKit Go.Deep
set_option maxHeartbeats 40000000
set_option maxRecDepth 100000
def WN (w : World) (g j : Nat) : Prop := N64 w g j ∧ w.frozen? ⟨g, j, none⟩ = false
def WO (w : World) (g j : Nat) : Prop := Bo w g j ∧ w.frozen? ⟨g, j, none⟩ = false
theorem WN.kb {w w' : World} {g j : Nat} (h : WN w g j) (k : KB w w') : WN w' g j := ⟨k.i _ _ h.1, (k.f _).trans h.2⟩
structure EM (B C : Nat) (w : World) (g o : Nat) (d : EN) : Prop where
 hB : B ≤ g
 hC : g < C
 n0 : WN w g (o)
 n1 : WN w g (o + 1)
 n3 : WN w g (o + 3)
 n5 : WN w g (o + 5)
 n6 : WN w g (o + 6)
 s2 : w.cell? ⟨g, o + 2, none⟩ = some (.slice d.v.a d.v.len d.v.cap)
 t2 : TxM B C w d.v.a d.v.len
 s4 : w.cell? ⟨g, o + 4, none⟩ = some (.slice d.t.t.a d.t.t.len d.t.t.cap)
 t4 : TxM B C w d.t.t.a d.t.t.len
 s7 : w.cell? ⟨g, o + 7, none⟩ = some (.slice d.ka d.n d.kc)
theorem EM.kb {B C : Nat} {w w' : World} {g o : Nat} {d : EN} (h : EM B C w g o d) (k : KB w w') : EM B C w' g o d :=
 ⟨h.hB, h.hC, h.n0.kb k, h.n1.kb k, h.n3.kb k, h.n5.kb k, h.n6.kb k, k.s _ _ _ _ _ h.s2, h.t2.kb k, k.s _ _ _ _ _ h.s4, h.t4.kb k, k.s _ _ _ _ _ h.s7⟩
def KM (B C : Nat) (w : World) : ET → Prop
 | .nil => True
 | .mk d kid => d.n = 0 ∨ ∃ g, d.ka = some ⟨g, 0, none⟩ ∧ ∀ i, i < d.n → EM B C w g (i * 8) (kid i).d ∧ KM B C w (kid i)
theorem KM.kb {B C : Nat} {w w' : World} {e : ET} (h : KM B C w e) (k : KB w w') : KM B C w' e := by
 induction e with
 | nil => exact trivial
 | mk d kid ih =>
  rcases h with h | ⟨g, ha, hx⟩
  · exact .inl h
  exact .inr ⟨g, ha, fun i hi => ⟨(hx i hi).1.kb k, ih i (hx i hi).2⟩⟩
def XM (B C : Nat) (w : World) (a : Option Addr) (n : Nat) (kid : Nat → ET) : Prop := n = 0 ∨ ∃ g, a = some ⟨g, 0, none⟩ ∧ ∀ i, i < n → EM B C w g (i * 8) (kid i).d ∧ KM B C w (kid i)
end Go.Proofs.YtoloadogihbdeaaGreat
