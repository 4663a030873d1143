/- Texts of the call's own (Tx): none, or a row of bytes in a block of its own; []byte of a string. -/
import Derived.Test.YtmpiadlmkeimdaaDoorTokE
import Derived.Lib.ConvBytes
import Derived.Laws.BytesArg
namespace Go.Proofs.YtmpiadlmkeimdaaDoor
open Go.RowKit Go.Deep

/-- A text that is none, or lies in a block of its own from B on; what is behind it may be written. -/
def Tx (w : World) (B : Nat) (a : Option Addr) (len cap : Nat) (bs : List Int) : Prop :=
  Bs w a len bs ∧ ((a = none ∧ len = 0 ∧ cap = 0) ∨ ∃ g, a = some ⟨g, 0, none⟩ ∧ B ≤ g ∧ g < w.heap.size ∧ len ≤ cap ∧ ∀ j, j < cap → (∃ v, w.cell? ⟨g, j, none⟩ = some (.int .u8 v)) ∧ w.frozen? ⟨g, j, none⟩ = false)
theorem Tx.below {w w' : World} {B : Nat} {a : Option Addr} {len cap : Nat} {bs : List Int} (h : Tx w B a len cap bs) (hb : Below w.heap.size w w') : Tx w' B a len cap bs := by
  refine ⟨h.1.below hb, ?_⟩
  rcases h.2 with h2 | ⟨g, ha, hB, hg, hl, hc⟩
  · exact .inl h2
  · refine .inr ⟨g, ha, hB, Nat.lt_of_lt_of_le hg hb.size, hl, fun j hj => ?_⟩
    rw [hb.cell (p := ⟨g, j, none⟩) hg, hb.frozen (p := ⟨g, j, none⟩) hg]
    exact hc j hj
theorem Tx.mono {w : World} {B B' : Nat} {a : Option Addr} {len cap : Nat} {bs : List Int} (h : Tx w B a len cap bs) (hB : B' ≤ B) : Tx w B' a len cap bs := by
  refine ⟨h.1, ?_⟩
  rcases h.2 with h2 | ⟨g, ha, hg, hr⟩
  · exact .inl h2
  · exact .inr ⟨g, ha, Nat.le_trans hB hg, hr⟩
theorem Tx.nil (w : World) (B : Nat) : Tx w B none 0 0 [] := ⟨⟨rfl, by omega, by simp, .inl rfl⟩, .inl ⟨rfl, rfl, rfl⟩⟩

def numsOf (s : ByteArray) : List Int := s.data.toList.map (fun b => (b.toNat : Int))
theorem Tx.conv (w : World) (s : ByteArray) (e : TypeId) (hs : s.size ≤ 1048576) : Tx (Lib.bytesWorld w e s) w.heap.size (some ⟨w.heap.size, 0, none⟩) s.size (grownCap w s.size 0 e) (numsOf s) := by
  have hge := grownCap_ge w s.size 0 e
  refine ⟨⟨by simp [numsOf], hs, fun i => ?_, .inr ⟨w.heap.size, 0, rfl, by rw [Lib.bytesWorld_size]; omega, fun i hi => ?_⟩⟩, .inr ⟨w.heap.size, rfl, Nat.le_refl _, by rw [Lib.bytesWorld_size]; omega, hge, fun j hj => ?_⟩⟩
  · by_cases h : i < s.data.toList.length
    · have hb := (s.data.toList[i]).toNat_lt
      simp only [numsOf, List.getElem?_map, List.getElem?_eq_getElem h, Option.map_some, Option.getD_some]
      omega
    · simp only [numsOf, List.getElem?_map, List.getElem?_eq_none (Nat.le_of_not_lt h), Option.map_none, Option.getD_none]
      omega
  · rw [Nat.zero_add, Lib.bytesWorld_cell w e s i hi]
    have h : i < s.data.toList.length := by simpa using hi
    simp only [numsOf, List.getElem?_map, List.getElem?_eq_getElem h, Option.map_some, Option.getD_some, List.getD_eq_getElem?_getD]
  · have hsz : (Lib.bytesCells w e s).size = grownCap w s.size 0 e := by
      simp [Lib.bytesCells]
      omega
    refine ⟨?_, ?_⟩
    · have hj' : j < (Lib.bytesCells w e s).size := by omega
      simp only [World.cell?, Lib.bytesWorld_at_new]
      by_cases hjs : j < s.size
      · exact ⟨(s.data[j]'hjs).toNat, by simp [Lib.bytesCells, Array.getElem?_append, hjs]⟩
      · refine ⟨0, ?_⟩
        have h1 : ¬ j < (s.data.map fun b => Value.int .u8 b.toNat).size := by simpa using hjs
        have h2 : j - (s.data.map fun b => Value.int .u8 b.toNat).size < grownCap w s.size 0 e - s.size := by simp; omega
        rw [Lib.bytesCells, Array.getElem?_append, if_neg h1, Array.getElem?_replicate, if_pos h2]
        rfl
    · simp only [World.frozen?, Lib.bytesWorld_at_new, hsz]
      simp
      omega
theorem bytesWorld_below (w : World) (e : TypeId) (s : ByteArray) : Below w.heap.size w (Lib.bytesWorld w e s) := by
  refine ⟨?_, ?_, ?_, by rw [Lib.bytesWorld_size]; omega, fun b hb => Lib.bytesWorld_at_old w e s b hb⟩ <;> rfl

/-- A list of bytes. -/
def Byt (l : List Int) : Prop := ∀ x ∈ l, 0 ≤ x ∧ x ≤ 255
theorem Byt.get {l : List Int} (h : Byt l) (i : Nat) : 0 ≤ l[i]?.getD 0 ∧ l[i]?.getD 0 ≤ 255 := by
  by_cases hi : i < l.length
  · rw [List.getElem?_eq_getElem hi]
    exact h _ (List.getElem_mem hi)
  · rw [List.getElem?_eq_none (by omega)]
    simp
theorem Byt.of {l : List Int} (h : ∀ i : Nat, 0 ≤ l[i]?.getD 0 ∧ l[i]?.getD 0 ≤ 255) : Byt l := by
  intro x hx
  obtain ⟨i, hi, rfl⟩ := List.getElem_of_mem hx
  have := h i
  rwa [List.getElem?_eq_getElem hi] at this
theorem Byt.app {l m : List Int} (h : Byt l) (k : Byt m) : Byt (l ++ m) := by
  intro x hx
  rcases List.mem_append.1 hx with hx | hx
  · exact h x hx
  · exact k x hx
theorem Byt.cons {a : Int} {l : List Int} (ha : 0 ≤ a ∧ a ≤ 255) (h : Byt l) : Byt (a :: l) := by
  intro x hx
  rcases List.mem_cons.1 hx with rfl | hx
  · exact ha
  · exact h x hx
theorem Byt.nil : Byt [] := fun x hx => by cases hx
theorem Bs.byt {w : World} {a : Option Addr} {len : Nat} {bs : List Int} (h : Bs w a len bs) : Byt bs := Byt.of h.2.2.1

theorem numsOf_append (s t : ByteArray) : numsOf (s ++ t) = numsOf s ++ numsOf t := by simp [numsOf]
theorem numsOf_len (s : ByteArray) : (numsOf s).length = s.size := by simp [numsOf]
theorem numsOf_nums {bs : List Int} (h : Byt bs) : numsOf (strOfNums bs) = bs := by
  unfold numsOf
  rw [strOfNums_data, List.map_map]
  have : ∀ x ∈ bs, ((fun b : UInt8 => (b.toNat : Int)) ∘ fun n : Int => UInt8.ofNat n.toNat) x = x := by
    intro x hx
    obtain ⟨h0, h1⟩ := h x hx
    simp
    omega
  rw [List.map_congr_left this, List.map_id']
theorem Bs.str {w : World} {a : Option Addr} {len cap : Nat} {bs : List Int} (h : Bs w a len bs) : (convert 22 9 (.slice a len cap)).run Tryd.prog w = .ok (.string (strOfNums bs)) w := by
  obtain ⟨hl, _, _, h4⟩ := h
  rcases h4 with h4 | ⟨b, off, rfl, _, hc⟩
  · subst h4
    have e : bs = [] := List.eq_nil_of_length_eq_zero hl
    subst e
    cases a with
    | none =>
      rw [run_convert_bytes_nil w 22 5 Tryd.underlying22 Tryd.underlying5 0 cap 9 Tryd.underlying9]
      rfl
    | some x =>
      have hl : (loadCells x 0).run Tryd.prog w = .ok (([] : List Int).map (Value.int .u8)).toArray w := rfl
      rw [run_convert_bytes_string w 22 9 5 _ 0 cap Tryd.underlying22 Tryd.underlying5 Tryd.underlying9, run_bytesToString w _ 0 cap [] hl]
      rfl
  · exact run_convert_bytes_arg w 22 5 Tryd.underlying22 Tryd.underlying5 b off len cap bs hl (fun i hi => by rw [hc i hi, List.getD_eq_getElem?_getD]) 9 Tryd.underlying9
end Go.Proofs.YtmpiadlmkeimdaaDoor
