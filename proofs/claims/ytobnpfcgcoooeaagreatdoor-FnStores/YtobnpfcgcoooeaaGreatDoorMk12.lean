/- Texts put together: StqE -/
import Derived.Test.YtobnpfcgcoooeaaGreatDoorMk11
/- StqE -/
namespace Go.Proofs.YtobnpfcgcoooeaaGreatDoor
open Go.RowKit Go.Deep
set_option maxRecDepth 100000

/-- All blocks but p and the row are as they were. -/
structure Kept (p : Nat) (row : Option Nat) (w w' : World) : Prop where
  size : w.heap.size ≤ w'.heap.size
  block : ∀ b, b < w.heap.size → b ≠ p → some b ≠ row → w'.heap[b]? = w.heap[b]?
theorem Kept.drew0 (p : Nat) (row : Option Nat) (w : World) : Kept p row w w.drew := ⟨Nat.le_refl _, fun _ _ _ _ => rfl⟩
theorem Kept.refl (p : Nat) (row : Option Nat) (w : World) : Kept p row w w := ⟨Nat.le_refl _, fun _ _ _ _ => rfl⟩
theorem Kept.below {p : Nat} {row : Option Nat} {w w' w'' : World} (h : Kept p row w w') (hb : Below w'.heap.size w' w'') : Kept p row w w'' :=
  ⟨Nat.le_trans h.size hb.size, fun b h1 h2 h3 => (hb.block b (Nat.lt_of_lt_of_le h1 h.size)).trans (h.block b h1 h2 h3)⟩
theorem Kept.alloc {p : Nat} {row : Option Nat} {w w' : World} (h : Kept p row w w') (o : Obj) : Kept p row w (w'.alloc o) := h.below (bl_a o)
theorem Kept.grown {p : Nat} {row : Option Nat} {w w' w'' : World} (h : Kept p row w w') (hg : w'.grownBy w'' row) : Kept p row w w'' :=
  ⟨Nat.le_trans h.size hg.size, fun b h1 h2 h3 => (hg.block b (Nat.lt_of_lt_of_le h1 h.size) h3).trans (h.block b h1 h2 h3)⟩
theorem Kept.set {p : Nat} {row : Option Nat} {w w' : World} (h : Kept p row w w') (i : Nat) (v : Value) : Kept p row w (w'.setCell ⟨p, i, none⟩ v) :=
  ⟨by simpa [World.setCell] using h.size, fun b h1 h2 h3 => (Below.heap_setCell _ _ _ _ h2).trans (h.block b h1 h2 h3)⟩
theorem Kept.cell {p : Nat} {row : Option Nat} {w w' : World} (h : Kept p row w w') {b o : Nat} (h1 : b < w.heap.size) (h2 : b ≠ p) (h3 : some b ≠ row) : w'.cell? ⟨b, o, none⟩ = w.cell? ⟨b, o, none⟩ := World.cell?_of_block (w := w) (a := ⟨b, o, none⟩) (h.block b h1 h2 h3)

def enc12 (T U V : Nat → Tm) (i : Nat) : List Value := enc4 (T i) ++ (enc4 (U i) ++ enc4 (V i))
theorem enc12_len (T U V : Nat → Tm) (i : Nat) : (enc12 T U V i).length = 12 := by simp [enc12, enc4]
def flat12 (T U V : Nat → Tm) (k : Nat) : List Value := (List.range k).flatMap (enc12 T U V)
theorem flat12_succ (T U V : Nat → Tm) (k : Nat) : flat12 T U V (k + 1) = flat12 T U V k ++ enc12 T U V k := by simp [flat12, List.range_succ]
theorem flat12_get (T U V : Nat → Tm) (k i c : Nat) (hi : i < k) (hc : c < 12) : (flat12 T U V k)[i * 12 + c]? = (enc12 T U V i)[c]? := by
  have := flatMap_get (enc12 T U V) 12 (enc12_len T U V) (List.range k) i c (by simpa using hi) hc
  rw [List.getElem_range] at this
  exact this
theorem enc12_one (T U V : Nat → Tm) (i : Nat) : ∀ u ∈ enc12 T U V i, u.oneCell' = true := by
  intro u hu
  simp only [enc12, enc4, List.mem_append, List.mem_cons, List.not_mem_nil, or_false] at hu
  rcases hu with (rfl | rfl | rfl | rfl) | (rfl | rfl | rfl | rfl) | (rfl | rfl | rfl | rfl) <;> rfl
/-- A row of triples of the call's own, or none as yet. -/
def OwnGR (w : World) (B : Nat) (v : Value) (T U V : Nat → Tm) (k : Nat) : Prop := w.ownsRow B 41 12 v k (flat12 T U V k) ∧ ∀ g, v.ownBlock = some g → B ≤ g ∧ g < w.heap.size
theorem OwnGR.nil (w : World) (B : Nat) (T U V : Nat → Tm) : OwnGR w B (.slice none 0 0) T U V 0 := ⟨World.ownsRow_nil _ _ _ _, fun g h => by cases h⟩
theorem OwnGR.below {w w' : World} {B : Nat} {v : Value} {T U V : Nat → Tm} {k : Nat} (h : OwnGR w B v T U V k) (hb : Below w.heap.size w w') : OwnGR w' B v T U V k := by
  obtain ⟨⟨h1, h2⟩, hl⟩ := h
  refine ⟨⟨h1, ?_⟩, fun g hg => ⟨(hl g hg).1, Nat.lt_of_lt_of_le (hl g hg).2 hb.size⟩⟩
  rcases h2 with h2 | ⟨g', cap', cur, hv, hB, hh, r⟩
  · exact .inl h2
  · refine .inr ⟨g', cap', cur, hv, hB, ?_, r⟩
    have := (hl g' (by rw [hv]; rfl)).2
    rw [hb.block g' this]
    exact hh
theorem OwnGR.but {w w' : World} {B c : Nat} {v : Value} {T U V : Nat → Tm} {k : Nat} (h : OwnGR w B v T U V k) (hb : But c w w') (hc : c < B) : OwnGR w' B v T U V k := by
  obtain ⟨⟨h1, h2⟩, hl⟩ := h
  refine ⟨⟨h1, ?_⟩, fun g hg => ⟨(hl g hg).1, by rw [hb.size]; exact (hl g hg).2⟩⟩
  rcases h2 with h2 | ⟨g', cap', cur, hv, hB, hh, r⟩
  · exact .inl h2
  · refine .inr ⟨g', cap', cur, hv, hB, ?_, r⟩
    rw [hb.block g' (by omega)]
    exact hh
theorem OwnGR.form {w : World} {B : Nat} {v : Value} {T U V : Nat → Tm} {k : Nat} (h : OwnGR w B v T U V k) : ∃ a cap, v = .slice a k cap ∧ Rows w a k T U V := by
  rcases h.1.2 with ⟨rfl, rfl⟩ | ⟨g, cap, cur, rfl, hB, hh, hle, _, hsz, htk⟩
  · exact ⟨none, 0, rfl, .inl rfl⟩
  · have hlt := (h.2 g rfl).2
    refine ⟨some ⟨g, 0, none⟩, cap, rfl, .inr ⟨g, 0, rfl, hlt, fun i hi => ?_⟩⟩
    have hc : ∀ c u, c < 12 → (enc12 T U V i)[c]? = some u → w.cell? ⟨g, i * 12 + c, none⟩ = some u := by
      intro c u hc hu
      rw [← flat12_get T U V k i c hi hc, ← htk, List.getElem?_take, if_pos (by omega)] at hu
      simp only [World.cell?, hh]
      simpa using hu
    rw [Nat.zero_add]
    exact ⟨⟨hc 0 _ (by omega) rfl, hc 1 _ (by omega) rfl, hc 2 _ (by omega) rfl, hc 3 _ (by omega) rfl⟩, ⟨hc 4 _ (by omega) rfl, hc 5 _ (by omega) rfl, hc 6 _ (by omega) rfl, hc 7 _ (by omega) rfl⟩, ⟨hc 8 _ (by omega) rfl, hc 9 _ (by omega) rfl, hc 10 _ (by omega) rfl, hc 11 _ (by omega) rfl⟩⟩
theorem one_triple (w : World) (T U V : Nat → Tm) (i : Nat) : ∀ j u, (enc12 T U V i)[j]? = some u → (w.alloc (.cells (cells12 (T i) (U i) (V i)) 41)).cell? ((⟨w.heap.size, 0, none⟩ : Addr).add j) = some u := by
  intro j u hj
  have ea : (⟨w.heap.size, 0, none⟩ : Addr).add j = ⟨w.heap.size, j, none⟩ := by
    by_cases h0 : j = 0 <;> simp [Addr.add, h0]
  rw [ea]
  simp only [go_sem]
  simp [cells12]
  exact hj
/-- What append leaves of such a row. -/
theorem ownGR_more {w' : World} {B g cap k : Nat} {T U V : Nat → Tm} (hown : w'.ownsRow B 41 12 (.slice (some ⟨g, 0, none⟩) (k + 1) cap) (k + 1) (flat12 T U V k ++ enc12 T U V k)) (hlt : g < w'.heap.size) : OwnGR w' B (.slice (some ⟨g, 0, none⟩) (k + 1) cap) T U V (k + 1) := by
  refine ⟨by rw [flat12_succ]; exact hown, fun g' hg' => ?_⟩
  have : g = g' := by simpa [Value.ownBlock] using hg'
  subst this
  rcases hown.2 with ⟨hv, _⟩ | ⟨g0, c0, cur, hv, hb, _⟩
  · cases hv
  · cases hv; exact ⟨hb, hlt⟩
end Go.Proofs.YtobnpfcgcoooeaaGreatDoor
