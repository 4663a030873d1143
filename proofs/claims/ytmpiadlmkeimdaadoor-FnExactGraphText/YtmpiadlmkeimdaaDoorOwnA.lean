/- Helpers for laws that mark a term's text: texts of the call's own, and what stays when one is written. -/
import Derived.Test.YtmpiadlmkeimdaaDoorMrkA
import Derived.Test.YtmpiadlmkeimdaaDoorTokE
namespace Go.Proofs.YtmpiadlmkeimdaaDoor
open Go.RowKit Go.Deep

/-- A text of the call's own in block g: what it holds, and that it may be written. -/
def OwnT (w : World) (g len : Nat) (bs : List Int) : Prop :=
  Bs w (some ⟨g, 0, none⟩) len bs ∧ g < w.heap.size ∧ (∀ i, i < len → ∃ v, w.cell? ⟨g, i, none⟩ = some (.int .u8 v)) ∧ (∀ i, i < len → w.frozen? ⟨g, i, none⟩ = false)
theorem OwnT.below {w w' : World} {g len : Nat} {bs : List Int} (h : OwnT w g len bs) (hb : Below w.heap.size w w') : OwnT w' g len bs := by
  obtain ⟨h1, h2, h3, h4⟩ := h
  refine ⟨h1.below hb, Nat.lt_of_lt_of_le h2 hb.size, fun i hi => ?_, fun i hi => (hb.frozen (p := ⟨g, i, none⟩) h2).trans (h4 i hi)⟩
  obtain ⟨v, hv⟩ := h3 i hi
  exact ⟨v, (hb.cell (p := ⟨g, i, none⟩) h2).trans hv⟩
theorem Bs.but {w w' : World} {g b len : Nat} {bs : List Int} (h : Bs w (some ⟨b, 0, none⟩) len bs) (hb : But g w w') (hne : b ≠ g) : Bs w' (some ⟨b, 0, none⟩) len bs := by
  obtain ⟨h1, h2, h3, h4⟩ := h
  refine ⟨h1, h2, h3, ?_⟩
  rcases h4 with h4 | ⟨b', off, ha, hlt, hc⟩
  · exact .inl h4
  · cases ha
    exact .inr ⟨b, 0, rfl, by rw [hb.size]; exact hlt, fun i hi => (hb.cell (p := ⟨b, 0 + i, none⟩) hne).trans (hc i hi)⟩
theorem OwnT.but {w w' : World} {g b len : Nat} {bs : List Int} (h : OwnT w b len bs) (hb : But g w w') (hne : b ≠ g) : OwnT w' b len bs := by
  obtain ⟨h1, h2, h3, h4⟩ := h
  refine ⟨h1.but hb hne, by rw [hb.size]; exact h2, fun i hi => ?_, fun i hi => (hb.frozen (p := ⟨b, i, none⟩) hne).trans (h4 i hi)⟩
  obtain ⟨v, hv⟩ := h3 i hi
  exact ⟨v, (hb.cell (p := ⟨b, i, none⟩) hne).trans hv⟩
theorem At4.but {w w' : World} {g b : Nat} {v0 v1 v2 v3 : Value} (h : At4 w b v0 v1 v2 v3) (hb : But g w w') (hne : b ≠ g) : At4 w' b v0 v1 v2 v3 := by
  obtain ⟨hl, h0, h1, h2, h3⟩ := h
  exact ⟨by rw [hb.size]; exact hl, (hb.cell (p := ⟨b, 0, none⟩) hne).trans h0, (hb.cell (p := ⟨b, 1, none⟩) hne).trans h1, (hb.cell (p := ⟨b, 2, none⟩) hne).trans h2, (hb.cell (p := ⟨b, 3, none⟩) hne).trans h3⟩
/-- toTerm: the text lies in a new block of its own; the world written out. -/
theorem toTerm_out (k n s : Int) (a : Option Addr) (len cap : Nat) (bs : List Int) (w : World) (hB : Bs w a len bs) :
    Calls Tryd.prog 7 #[.agg #[.int .i64 k, .slice a len cap, .int .i64 n, .int .i64 s]] w fun e w' =>
      e = .returned (.agg #[.int .i64 k, .slice (some ⟨w.heap.size + 1 + 1 + 1, 0, none⟩) len len, .int .i64 n, .int .i64 s]) ∧ ∃ o1 o2 o3, OwnT w' (w.heap.size + 1 + 1 + 1) len bs ∧ w' = (((w.alloc o1).alloc o2).alloc o3).alloc (.cells (cellsOf bs) 5) := by
  refine (toTerm_own k n s a len cap bs w hB).mono ?_
  obtain ⟨hl, h2, h3, _⟩ := hB
  rintro e w' ⟨rfl, o1, o2, o3, rfl⟩
  refine ⟨rfl, o1, o2, o3, ⟨?_, by simp, fun i hi => ?_, fun i hi => ?_⟩, rfl⟩
  · have := Bs.made (((w.alloc o1).alloc o2).alloc o3) bs len hl h2 h3
    simpa using this
  · have hi' : i < bs.length := by omega
    exact ⟨bs[i], by simp [go_sem, cellsOf, hi']⟩
  · have hi' : i < bs.length := by omega
    simp [go_sem, cellsOf]
/-- .. the world hidden. -/
theorem toTerm_new (k n s : Int) (a : Option Addr) (len cap : Nat) (bs : List Int) (w : World) (hB : Bs w a len bs) :
    Calls Tryd.prog 7 #[.agg #[.int .i64 k, .slice a len cap, .int .i64 n, .int .i64 s]] w fun e w' =>
      ∃ g, e = .returned (.agg #[.int .i64 k, .slice (some ⟨g, 0, none⟩) len len, .int .i64 n, .int .i64 s]) ∧ OwnT w' g len bs ∧ w.heap.size ≤ g ∧ Below w.heap.size w w' := by
  refine (toTerm_out k n s a len cap bs w hB).mono ?_
  rintro e w' ⟨rfl, o1, o2, o3, hO, rfl⟩
  exact ⟨_, rfl, hO, by omega, bl_alloc (bl_alloc (bl_alloc (bl_a _) _) _) _⟩
end Go.Proofs.YtmpiadlmkeimdaaDoor
