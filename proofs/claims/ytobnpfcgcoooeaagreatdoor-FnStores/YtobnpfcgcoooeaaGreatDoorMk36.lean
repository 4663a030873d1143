/- Texts put together: StpI -/
import Derived.Test.YtobnpfcgcoooeaaGreatDoorMk35
import Derived.Test.YtobnpfcgcoooeaaGreatDoorMk20
/- StpI -/
namespace Go.Proofs.YtobnpfcgcoooeaaGreatDoor
open Go.RowKit Go.Deep Go.Maps
set_option maxRecDepth 100000

/-- A row of values of one cell, of the call's own. -/
def OwnV (w : World) (B : Nat) (v : Value) (vs : List Value) : Prop := w.ownsRow B 38 1 v vs.length vs ∧ ∀ g, v.ownBlock = some g → B ≤ g ∧ g < w.heap.size
theorem OwnV.nil (w : World) (B : Nat) : OwnV w B (.slice none 0 0) [] := ⟨World.ownsRow_nil _ _ _ _, fun g h => by cases h⟩
theorem OwnV.grown {w w' : World} {B : Nat} {v : Value} {vs : List Value} {row : Option Nat} (h : OwnV w B v vs) (hg : w.grownBy w' row) (hr : ∀ g, v.ownBlock = some g → row ≠ some g) : OwnV w' B v vs := by
  obtain ⟨⟨h1, h2⟩, hl⟩ := h
  refine ⟨⟨h1, ?_⟩, fun g hg' => ⟨(hl g hg').1, Nat.lt_of_lt_of_le (hl g hg').2 hg.size⟩⟩
  rcases h2 with h2 | ⟨g', cap', cur, hv, hB, hh, r⟩
  · exact .inl h2
  · refine .inr ⟨g', cap', cur, hv, hB, ?_, r⟩
    rw [hg.block g' (hl g' (by rw [hv]; rfl)).2 (fun e => hr g' (by rw [hv]; rfl) e.symm)]
    exact hh
theorem OwnRR.grown {w w' : World} {B : Nat} {v : Value} {l : List (Int × Int × Int)} {row : Option Nat} (h : OwnRR w B v l) (hg : w.grownBy w' row) (hr : ∀ g, v.ownBlock = some g → row ≠ some g) : OwnRR w' B v l := by
  obtain ⟨⟨h1, h2⟩, hl⟩ := h
  refine ⟨⟨h1, ?_⟩, fun g hg' => ⟨(hl g hg').1, Nat.lt_of_lt_of_le (hl g hg').2 hg.size⟩⟩
  rcases h2 with h2 | ⟨g', cap', cur, hv, hB, hh, r⟩
  · exact .inl h2
  · refine .inr ⟨g', cap', cur, hv, hB, ?_, r⟩
    rw [hg.block g' (hl g' (by rw [hv]; rfl)).2 (fun e => hr g' (by rw [hv]; rfl) e.symm)]
    exact hh
theorem Tryz.info38 : (Tryz.prog.info? 38).map (fun i => (i.zero, i.size, i.bytes)) = some (some (.slice none 0 0), 1, 24) := by kernel_rfl

/-- The first k orders of these rows. -/
structure Orders (w : World) (B : Nat) (v : Value) (rows : List (Int × Int × Int)) (k : Nat) (vs : List Value) : Prop where
  own : OwnV w B v vs
  len : vs.length = k
  row : ∀ i x, vs[i]? = some x → ∃ l, OwnRR w B x l ∧ l.Perm rows ∧ l.Pairwise (fun p q => rcmp i p q ≤ 0)
  dis : ∀ x ∈ vs, ∀ g, x.ownBlock = some g → v.ownBlock ≠ some g
  ord : vs.Pairwise (fun x y => ∀ p q, x.ownBlock = some p → y.ownBlock = some q → p < q)
theorem Orders.grown {w w' : World} {B : Nat} {v : Value} {rows : List (Int × Int × Int)} {k : Nat} {vs : List Value} {row : Option Nat} (h : Orders w B v rows k vs) (hg : w.grownBy w' row) (hr : ∀ g, row = some g → g < B) : Orders w' B v rows k vs := by
  refine ⟨h.own.grown hg (fun g h1 e => ?_), h.len, fun i x hx => ?_, h.dis, h.ord⟩
  · have := (h.own.2 g h1).1
    have := hr g e
    omega
  · obtain ⟨l, h1, h2, h3⟩ := h.row i x hx
    refine ⟨l, h1.grown hg (fun g h4 e => ?_), h2, h3⟩
    have := (h1.2 g h4).1
    have := hr g e
    omega
/-- One more. -/
theorem Orders.more {w w1 w2 w3 : World} {B g cap : Nat} {v x : Value} {rows l : List (Int × Int × Int)} {k : Nat} {vs : List Value} (h : Orders w B v rows k vs) (hx : OwnRR w1 w.heap.size x l) (hp : l.Perm rows) (hs : l.Pairwise (fun p q => rcmp k p q ≤ 0))
    (hb1 : Below w.heap.size w w1) (hb2 : Below w1.heap.size w1 w2) (hB : B ≤ w.heap.size) (hg : w2.grownBy w3 v.ownBlock) (hown : w3.ownsRow B 38 1 (.slice (some ⟨g, 0, none⟩) (vs.length + 1) cap) (vs.length + 1) (vs ++ [x])) (hat : v.ownBlock = some g ∨ g = w2.heap.size) (hlt : g < w3.heap.size) :
    Orders w3 B (.slice (some ⟨g, 0, none⟩) (vs.length + 1) cap) rows (k + 1) (vs ++ [x]) := by
  have hw12 : Below w.heap.size w w2 := hb1.trans (hb2.mono hb1.size)
  have hbg : B ≤ g := by
    rcases hown.2 with ⟨hv, _⟩ | ⟨g0, c0, cur, hv, hb, _⟩
    · cases hv
    · cases hv; exact hb
  have hob : ∀ g', v.ownBlock = some g' → g' < w.heap.size := fun g' h' => (h.own.2 g' h').2
  have hxl : ∀ g', x.ownBlock = some g' → w.heap.size ≤ g' ∧ g' < w1.heap.size := fun g' h' => hx.2 g' h'
  have hold : ∀ y ∈ vs, ∀ g', y.ownBlock = some g' → g' < w.heap.size := fun y hy g' h' => by
    obtain ⟨i, hi, rfl⟩ := List.mem_iff_getElem.1 hy
    obtain ⟨l', h1, _⟩ := h.row i _ (List.getElem?_eq_getElem hi)
    exact (h1.2 g' h').2
  refine ⟨⟨?_, fun g' h' => ?_⟩, by simp [h.len], fun i y hy => ?_, fun y hy g' h' e => ?_, ?_⟩
  · rw [List.length_append]
    exact hown
  · have : g = g' := by simpa [Value.ownBlock] using h'
    subst this
    exact ⟨hbg, hlt⟩
  · by_cases hi : i < vs.length
    · rw [List.getElem?_append_left hi] at hy
      obtain ⟨l', h1, h2, h3⟩ := h.row i y hy
      have h4 : OwnRR w2 B y l' := h1.below hw12
      exact ⟨l', h4.grown hg (fun g' h5 e => h.dis y (List.mem_of_getElem? hy) g' h5 e), h2, h3⟩
    · rw [List.getElem?_append_right (by omega)] at hy
      have hi0 : i - vs.length = 0 := by
        have := (List.getElem?_eq_some_iff.1 hy).1
        simp at this
        omega
      rw [hi0] at hy
      simp at hy
      subst hy
      have hik : i = k := by have := h.len; omega
      subst hik
      refine ⟨l, ((hx.base hB).below hb2).grown hg (fun g' h5 e => ?_), hp, hs⟩
      have := hob g' e
      have := (hxl g' h5).1
      omega
  · simp only [Value.ownBlock, Option.some.injEq] at e
    subst e
    rcases List.mem_append.1 hy with hy | hy
    · rcases hat with hat | hat
      · exact h.dis y hy g h' hat
      · have h1 := hold y hy g h'
        have := hw12.size
        omega
    · simp only [List.mem_cons, List.not_mem_nil, or_false] at hy
      subst hy
      have h1 := hxl g h'
      rcases hat with hat | hat
      · have := hob g hat
        omega
      · have := hb2.size
        omega
  · rw [List.pairwise_append]
    refine ⟨h.ord, by simp, fun y hy z hz p q hp' hq' => ?_⟩
    simp only [List.mem_cons, List.not_mem_nil, or_false] at hz
    subst hz
    have := hold y hy p hp'
    have := (hxl q hq').1
    omega
end Go.Proofs.YtobnpfcgcoooeaaGreatDoor
