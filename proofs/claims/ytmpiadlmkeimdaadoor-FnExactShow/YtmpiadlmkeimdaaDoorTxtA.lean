/- Texts as rows of bytes: what a slice of bytes holds, and the contracts of the law's own helpers on them (toByteS, eqByteS, szByteS, toTerm, eqTerm, szTerm). -/
import Derived.Test.YtmpiadlmkeimdaaDoorNumB
import Derived.Deep.OwnRows
import Derived.Deep.Draws
import Derived.BigQuiet
import Derived.Deep.QuietTactic
namespace Go.Proofs.YtmpiadlmkeimdaaDoor
open Go.RowKit Go.Deep

/-- The slice value's address 'a' leads, for 'len' bytes, to the numbers bs. -/
def Bs (w : World) (a : Option Addr) (len : Nat) (bs : List Int) : Prop :=
  bs.length = len ∧ len ≤ 1048576 ∧ (∀ i : Nat, 0 ≤ bs[i]?.getD 0 ∧ bs[i]?.getD 0 ≤ 255) ∧
    (len = 0 ∨ ∃ b off, a = some ⟨b, off, none⟩ ∧ b < w.heap.size ∧ ∀ i, i < len → w.cell? ⟨b, off + i, none⟩ = some (.int .u8 (bs[i]?.getD 0)))

theorem Bs.below {w w' : World} {a : Option Addr} {len : Nat} {bs : List Int} (h : Bs w a len bs) (hb : Below w.heap.size w w') : Bs w' a len bs := by
  obtain ⟨h1, h2, h3, h4⟩ := h
  refine ⟨h1, h2, h3, ?_⟩
  rcases h4 with h4 | ⟨b, off, ha, hlt, hc⟩
  · exact .inl h4
  · exact .inr ⟨b, off, ha, Nat.lt_of_lt_of_le hlt hb.size, fun i hi => (hb.cell (p := ⟨b, off + i, none⟩) hlt).trans (hc i hi)⟩

/-- The bytes as cells. -/
def cellsOf (bs : List Int) : Array Value := (bs.map (Value.int .u8)).toArray

theorem Bs.made (w : World) (bs : List Int) (len : Nat) (hl : bs.length = len) (h2 : len ≤ 1048576) (h3 : ∀ i : Nat, 0 ≤ bs[i]?.getD 0 ∧ bs[i]?.getD 0 ≤ 255) :
    Bs (w.alloc (.cells (cellsOf bs) 5)) (some ⟨w.heap.size, 0, none⟩) len bs := by
  refine ⟨hl, h2, h3, .inr ⟨w.heap.size, 0, rfl, by simp, fun i hi => ?_⟩⟩
  have hi' : i < bs.length := by omega
  simp [go_sem, cellsOf, hi']

theorem Tryd.info5 : (Tryd.prog.info? 5).map (fun i => (i.zero, i.size, i.bytes)) = some (some (.int .u8 0), 1, 1) := by kernel_rfl

/-- The row while it is filled: the first k are there. -/
def filled (bs : List Int) (k : Nat) : Array Value := (Array.range bs.length).map (fun i => Value.int .u8 (if i < k then bs[i]?.getD 0 else 0))

theorem filled_get (bs : List Int) (k i : Nat) : (filled bs k)[i]? = if i < bs.length then some (Value.int .u8 (if i < k then bs[i]?.getD 0 else 0)) else none := by
  by_cases h : i < bs.length <;> simp [filled, h]
theorem filled_zero (bs : List Int) (n : Nat) (h : bs.length = n) : madeCells #[Value.int .u8 0] n = filled bs 0 := by
  subst h
  apply Array.ext_getElem?
  intro i
  rw [filled_get]
  by_cases h : i < bs.length <;> simp [madeCells, h, Nat.mod_one]
theorem filled_at (bs : List Int) (k : Nat) (h : k < bs.length) : (filled bs k)[k]? = some (Value.int .u8 0) := by
  rw [filled_get]; simp [h]
theorem filled_step (bs : List Int) (k : Nat) : (filled bs k).setIfInBounds k (Value.int .u8 (bs[k]?.getD 0)) = filled bs (k + 1) := by
  apply Array.ext_getElem?
  intro i
  rw [Array.getElem?_setIfInBounds, filled_get, filled_get]
  have hsz : (filled bs k).size = bs.length := by simp [filled]
  rw [hsz]
  by_cases e : k = i
  · subst e
    by_cases h : k < bs.length <;> simp [h]
  · rw [if_neg e]
    by_cases h : i < k
    · rw [if_pos h, if_pos (by omega : i < k + 1)]
    · rw [if_neg h, if_neg (by omega : ¬ i < k + 1)]
theorem filled_end (bs : List Int) (k : Nat) (hk : bs.length ≤ k) : filled bs k = cellsOf bs := by
  apply Array.ext_getElem?
  intro i
  rw [filled_get]
  by_cases h : i < bs.length
  · have : i < k := by omega
    simp [h, cellsOf, this]
  · simp [h, cellsOf]

theorem toByteS_any (a : Option Addr) (len cap : Nat) (bs : List Int) (w : World) (hB : Bs w a len bs) :
    Calls Tryd.prog 23 #[.slice a len cap] w fun e w' =>
      e = .returned (.slice (some ⟨w.heap.size, 0, none⟩) len len) ∧ w' = w.alloc (.cells (cellsOf bs) 5) := by
  obtain ⟨hl, h2, h3, h4⟩ := hB
  have hmk := run_make_row' (P := Tryd.prog) 22 5 (.int .u8 0) 1 Tryd.underlying22 Tryd.info5 rfl .i64 .i64 len (by omega) (by omega)
  rcases h4 with h4 | ⟨b, off, rfl, hlt, hc⟩
  · subst h4
    have e0 : cellsOf bs = madeCells #[Value.int .u8 0] 0 := by rw [filled_zero bs 0 hl, ← filled_end bs 0 (by omega)]
    rw [e0]
    have hmk0 : ∀ w, (Instr.makeSlice 22 (.int .i64 0) (.int .i64 0)).run Tryd.prog w = .ok (.slice (some ⟨w.heap.size, 0, none⟩) 0 0) (w.alloc (.cells (madeCells #[Value.int .u8 0] 0) 5)) := fun w => by simpa using hmk w
    clear hmk
    go_enter Tryd.func23, Tryd.ntmps23
    go_wp2
    refine wp_loop_rounds 1 ?_
    rw [rounds_succ]
    go_wp2
    go_ret
    exact ⟨rfl, rfl⟩
  · go_enter Tryd.func23, Tryd.ntmps23
    go_wp2
    go_loopw [4] (fun i wr => ∃ k : Nat, k ≤ len ∧ i = .int .i64 k ∧ wr = w.alloc (.cells (filled bs k) 5))
      (fun i _ => len - (intOf i).toNat)
    case atStart => exact ⟨0, Nat.zero_le _, rfl, by rw [filled_zero bs len hl]⟩
    case round =>
      obtain ⟨k, hk, rfl, rfl⟩ := hrel
      have hcx : k < len → w.cell? ⟨b, off + k, none⟩ = some (.int .u8 (bs[k]?.getD 0)) := fun h => hc k h
      have hfx : k < len → (filled bs k)[k]? = some (Value.int .u8 0) := fun h => filled_at bs k (by omega)
      have HL : Hid (bs.length = len) := hl
      clear hc h3 hmk hl
      go_wp2
      · go_roundw
        case rel =>
          refine ⟨k + 1, by omega, by go_num, ?_⟩
          rw [filled_step]
        case measure => simp [intOf]; omega
      · go_ret
        refine ⟨rfl, ?_⟩
        rw [filled_end bs k (by have := HL.out; omega)]
end Go.Proofs.YtmpiadlmkeimdaaDoor
