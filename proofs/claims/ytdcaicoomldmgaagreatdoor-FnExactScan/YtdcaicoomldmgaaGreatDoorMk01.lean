/- Texts put together: NumA NumB TxtA -/
import Derived.Test.YtdcaicoomldmgaaGreatDoorRows
import Derived.WalkKit
import Derived.WalkSpells
import Derived.WalkLawsBesides
import Derived.ProofKit
import Derived.OpenShut
import Derived.Deep.Light
import Derived.Deep.OwnRows
import Derived.Deep.Draws
import Derived.BigQuiet
import Derived.Deep.QuietTactic
/- NumA -/
namespace Go.Proofs.YtdcaicoomldmgaaGreatDoor
open Go.RowKit

theorem bl_alloc {w w' : World} (h : Below w.heap.size w w') (o : Obj) : Below w.heap.size w (w'.alloc o) := h.alloc h.size o
theorem bl_trans {w w' w'' : World} (h : Below w.heap.size w w') (k : Below w'.heap.size w' w'') : Below w.heap.size w w'' := h.trans (k.mono h.size)
theorem bl_set {w w' : World} (h : Below w.heap.size w w') {p : Addr} (hp : w.heap.size ≤ p.block) (u : Value) : Below w.heap.size w (w'.setCell p u) := h.setCell hp u

def norm : Nat → Int → Int × Int
  | 0, n => (n, 0)
  | s + 1, n => if n.tmod 10 = 0 then norm s (n.tdiv 10) else (n, (s : Int) + 1)

theorem norm_step (k : Nat) (m : Int) (h : 0 < k) (hm : (m.tmod 10 == 0) = true) : norm (k - 1) (m.tdiv 10) = norm k m := by
  obtain ⟨j, rfl⟩ : ∃ j, k = j + 1 := ⟨k - 1, by omega⟩
  have : m.tmod 10 = 0 := by simpa using hm
  simp [norm, this]
theorem norm_stop (k : Nat) (m : Int) (h : 0 < k) (hm : (m.tmod 10 == 0) = false) : norm k m = (m, (k : Int)) := by
  obtain ⟨j, rfl⟩ : ∃ j, k = j + 1 := ⟨k - 1, by omega⟩
  have : ¬ m.tmod 10 = 0 := by simpa using hm
  simp [norm, this]
theorem norm_zero (k : Nat) (m : Int) (h : ¬ 0 < k) : norm k m = (m, (k : Int)) := by
  obtain rfl : k = 0 := by omega
  simp [norm]

theorem tdiv10_lo (m : Int) (h : -9223372036854775808 ≤ m) : -9223372036854775808 ≤ m.tdiv 10 := by
  rcases Int.le_total 0 m with p | p
  · have := Int.tdiv_nonneg p (by decide : (0:Int) ≤ 10); omega
  · obtain ⟨q, rfl⟩ : ∃ q, m = -q := ⟨-m, by omega⟩
    rw [Int.neg_tdiv, Int.tdiv_eq_ediv_of_nonneg (by omega)]; omega
theorem tdiv10_hi (m : Int) (h : m ≤ 9223372036854775807) : m.tdiv 10 ≤ 9223372036854775807 := by
  rcases Int.le_total 0 m with p | p
  · rw [Int.tdiv_eq_ediv_of_nonneg p]; omega
  · obtain ⟨q, rfl⟩ : ∃ q, m = -q := ⟨-m, by omega⟩
    rw [Int.neg_tdiv, Int.tdiv_eq_ediv_of_nonneg (by omega)]; omega
theorem norm_bounds (s : Nat) (n : Int) (h1 : -9223372036854775808 ≤ n) (h2 : n ≤ 9223372036854775807) :
    -9223372036854775808 ≤ (norm s n).1 ∧ (norm s n).1 ≤ 9223372036854775807 ∧ 0 ≤ (norm s n).2 ∧ (norm s n).2 ≤ s := by
  induction s generalizing n with
  | zero => simp [norm]; omega
  | succ s ih =>
    unfold norm
    split
    · have := ih (n.tdiv 10) (tdiv10_lo n h1) (tdiv10_hi n h2); omega
    · simp; omega

/-- A number that may be. -/
def numOk (n s : Int) : Bool := decide (0 ≤ s) && decide (s ≤ 6) && decide (-1000000000000000 ≤ n) && decide (n ≤ 1000000000000000) && (s == 0 || n.tmod 10 != 0)

theorem specTermOk_num (n s : Int) (w : World) (_h1 : -9223372036854775808 ≤ n) (_h2 : n ≤ 9223372036854775807) (_h3 : -9223372036854775808 ≤ s) (_h4 : s ≤ 9223372036854775807) :
    Calls Tryz.prog 53 #[.agg #[.int .i64 3, .slice none 0 0, .int .i64 n, .int .i64 s]] w fun e w' =>
      e = .returned (.bool (numOk n s)) ∧ ∃ o1, w' = w.alloc o1 := by
  go_enter Tryz.func53, Tryz.ntmps53
  go_wp2
  all_goals go_ret
  all_goals refine ⟨?_, _, rfl⟩
  all_goals (simp [numOk]; try omega)

theorem within_any (n a b : Int) (w : World) :
    Calls Tryz.prog 62 #[.int .i64 n, .int .i64 a, .int .i64 b] w fun e w' => e = .returned (.bool (decide (a ≤ n) && decide (n ≤ b))) ∧ w' = w := by
  go_enter Tryz.func62, Tryz.ntmps62
  go_wp2
  all_goals go_ret
  all_goals (refine ⟨?_, rfl⟩; simp [*]; try omega)

theorem decOk_any (n s : Int) (w : World) (_h1 : -9223372036854775808 ≤ n) (_h2 : n ≤ 9223372036854775807) (_h3 : -9223372036854775808 ≤ s) (_h4 : s ≤ 9223372036854775807) :
    Calls Tryz.prog 97 #[.agg #[.int .i64 n, .int .i64 s]] w fun e w' =>
      e = .returned (.bool (numOk n s)) ∧ ∃ o1, w' = w.alloc o1 := by
  go_enter Tryz.func97, Tryz.ntmps97
  go_wp2
  all_goals go_ret
  all_goals refine ⟨?_, _, rfl⟩
  all_goals (go_light; simp_all [numOk]; try omega)

/-- What a number's fields become: the number, or nothing where it is none. -/
def tK (p : Int × Int) : Int := if numOk p.1 p.2 then 3 else 0
def tN (p : Int × Int) : Int := if numOk p.1 p.2 then p.1 else 0
def tS (p : Int × Int) : Int := if numOk p.1 p.2 then p.2 else 0

end Go.Proofs.YtdcaicoomldmgaaGreatDoor

/- NumB -/
namespace Go.Proofs.YtdcaicoomldmgaaGreatDoor
open Go.RowKit

/-- The number's parts at whatever scale: (0, 7) is none. -/
def numP (n s : Int) : Int × Int := if 0 ≤ s ∧ s ≤ 6 then norm s.toNat n else (0, 7)

theorem eq0 (w : World) : Calls Tryz.prog 60 #[.slice none 0 0, .slice none 0 0] w fun e w' => e = .returned (.bool true) ∧ w' = w := by
  go_enter Tryz.func60, Tryz.ntmps60
  go_wp2
  refine wp_loop_rounds 1 ?_
  rw [rounds_succ]
  go_wp2
  go_ret
  exact ⟨rfl, rfl⟩
theorem mark0 (k : Int) (w : World) : Calls Tryz.prog 89 #[.slice none 0 0, .int .i64 k] w fun e w' => e = .returned (.int .i64 k) ∧ w' = w := by
  go_enter Tryz.func89, Tryz.ntmps89
  go_wp2
  refine wp_loop_rounds 1 ?_
  rw [rounds_succ]
  go_wp2
  go_ret
  exact ⟨rfl, rfl⟩
theorem held0 (k : Int) (w : World) : Calls Tryz.prog 90 #[.slice none 0 0, .int .i64 k] w fun e w' => e = .returned (.int .i64 k) ∧ w' = w := by
  go_enter Tryz.func90, Tryz.ntmps90
  go_wp2
  refine wp_loop_rounds 1 ?_
  rw [rounds_succ]
  go_wp2
  go_ret
  exact ⟨rfl, rfl⟩

/-- Two terms without a text whose fields are the same are the same. -/
theorem eqTerm0 (k n s : Int) (w : World) : Calls Tryz.prog 22 #[.agg #[.int .i64 k, .slice none 0 0, .int .i64 n, .int .i64 s], .agg #[.int .i64 k, .slice none 0 0, .int .i64 n, .int .i64 s]] w fun e w' =>
    e = .returned (.bool true) ∧ ∃ o1 o2, w' = (w.alloc o1).alloc o2 := by
  go_enter Tryz.func22, Tryz.ntmps22
  go_wp2_with (go_at_call 60; refine (eq0 _).mono ?_; rintro e w1 ⟨rfl, rfl⟩)
  go_ret
  exact ⟨rfl, _, _, rfl⟩
end Go.Proofs.YtdcaicoomldmgaaGreatDoor

/- TxtA -/
namespace Go.Proofs.YtdcaicoomldmgaaGreatDoor
open Go.RowKit Go.Deep

/-- The slice value's address 'a' leads, for 'len' bytes, to the numbers bs. -/
def Bs (w : World) (a : Option Addr) (len : Nat) (bs : List Int) : Prop :=
  bs.length = len ∧ len ≤ 1048576 ∧ (∀ i : Nat, 0 ≤ bs[i]?.getD 0 ∧ bs[i]?.getD 0 ≤ 255) ∧
    (len = 0 ∨ ∃ b off, a = some ⟨b, off, none⟩ ∧ b < w.heap.size ∧ ∀ i, i < len → w.cell? ⟨b, off + i, none⟩ = some (.int .u8 (bs[i]?.getD 0)))

theorem Bs.below {w w' : World} {a : Option Addr} {len : Nat} {bs : List Int} (h : Bs w a len bs) (hb : Below w.heap.size w w') : Bs w' a len bs := by
  obtain ⟨h1, h2, h3, h4⟩ := h
  refine ⟨h1, h2, h3, ?_⟩
  rcases h4 with h4 | ⟨b, off, ha, hlt, hc⟩
  · exact .inl h4
  · exact .inr ⟨b, off, ha, Nat.lt_of_lt_of_le hlt hb.size, fun i hi => (hb.cell (p := ⟨b, off + i, none⟩) hlt).trans (hc i hi)⟩

/-- The bytes as cells. -/
def cellsOf (bs : List Int) : Array Value := (bs.map (Value.int .u8)).toArray

theorem Bs.made (w : World) (bs : List Int) (len : Nat) (hl : bs.length = len) (h2 : len ≤ 1048576) (h3 : ∀ i : Nat, 0 ≤ bs[i]?.getD 0 ∧ bs[i]?.getD 0 ≤ 255) :
    Bs (w.alloc (.cells (cellsOf bs) 5)) (some ⟨w.heap.size, 0, none⟩) len bs := by
  refine ⟨hl, h2, h3, .inr ⟨w.heap.size, 0, rfl, by simp, fun i hi => ?_⟩⟩
  have hi' : i < bs.length := by omega
  simp [go_sem, cellsOf, hi']

theorem Tryz.info5 : (Tryz.prog.info? 5).map (fun i => (i.zero, i.size, i.bytes)) = some (some (.int .u8 0), 1, 1) := by kernel_rfl

/-- The row while it is filled: the first k are there. -/
def filled (bs : List Int) (k : Nat) : Array Value := (Array.range bs.length).map (fun i => Value.int .u8 (if i < k then bs[i]?.getD 0 else 0))

theorem filled_get (bs : List Int) (k i : Nat) : (filled bs k)[i]? = if i < bs.length then some (Value.int .u8 (if i < k then bs[i]?.getD 0 else 0)) else none := by
  by_cases h : i < bs.length <;> simp [filled, h]
theorem filled_zero (bs : List Int) (n : Nat) (h : bs.length = n) : madeCells #[Value.int .u8 0] n = filled bs 0 := by
  subst h
  apply Array.ext_getElem?
  intro i
  rw [filled_get]
  by_cases h : i < bs.length <;> simp [madeCells, h, Nat.mod_one]
theorem filled_at (bs : List Int) (k : Nat) (h : k < bs.length) : (filled bs k)[k]? = some (Value.int .u8 0) := by
  rw [filled_get]; simp [h]
theorem filled_step (bs : List Int) (k : Nat) : (filled bs k).setIfInBounds k (Value.int .u8 (bs[k]?.getD 0)) = filled bs (k + 1) := by
  apply Array.ext_getElem?
  intro i
  rw [Array.getElem?_setIfInBounds, filled_get, filled_get]
  have hsz : (filled bs k).size = bs.length := by simp [filled]
  rw [hsz]
  by_cases e : k = i
  · subst e
    by_cases h : k < bs.length <;> simp [h]
  · rw [if_neg e]
    by_cases h : i < k
    · rw [if_pos h, if_pos (by omega : i < k + 1)]
    · rw [if_neg h, if_neg (by omega : ¬ i < k + 1)]
theorem filled_end (bs : List Int) (k : Nat) (hk : bs.length ≤ k) : filled bs k = cellsOf bs := by
  apply Array.ext_getElem?
  intro i
  rw [filled_get]
  by_cases h : i < bs.length
  · have : i < k := by omega
    simp [h, cellsOf, this]
  · simp [h, cellsOf]

theorem toByteS_any (a : Option Addr) (len cap : Nat) (bs : List Int) (w : World) (hB : Bs w a len bs) :
    Calls Tryz.prog 57 #[.slice a len cap] w fun e w' =>
      e = .returned (.slice (some ⟨w.heap.size, 0, none⟩) len len) ∧ w' = w.alloc (.cells (cellsOf bs) 5) := by
  obtain ⟨hl, h2, h3, h4⟩ := hB
  have hmk := run_make_row' (P := Tryz.prog) 45 5 (.int .u8 0) 1 Tryz.underlying45 Tryz.info5 rfl .i64 .i64 len (by omega) (by omega)
  rcases h4 with h4 | ⟨b, off, rfl, hlt, hc⟩
  · subst h4
    have e0 : cellsOf bs = madeCells #[Value.int .u8 0] 0 := by rw [filled_zero bs 0 hl, ← filled_end bs 0 (by omega)]
    rw [e0]
    have hmk0 : ∀ w, (Instr.makeSlice 45 (.int .i64 0) (.int .i64 0)).run Tryz.prog w = .ok (.slice (some ⟨w.heap.size, 0, none⟩) 0 0) (w.alloc (.cells (madeCells #[Value.int .u8 0] 0) 5)) := fun w => by simpa using hmk w
    clear hmk
    go_enter Tryz.func57, Tryz.ntmps57
    go_wp2
    refine wp_loop_rounds 1 ?_
    rw [rounds_succ]
    go_wp2
    go_ret
    exact ⟨rfl, rfl⟩
  · go_enter Tryz.func57, Tryz.ntmps57
    go_wp2
    go_loopw [4] (fun i wr => ∃ k : Nat, k ≤ len ∧ i = .int .i64 k ∧ wr = w.alloc (.cells (filled bs k) 5))
      (fun i _ => len - (intOf i).toNat)
    case atStart => exact ⟨0, Nat.zero_le _, rfl, by rw [filled_zero bs len hl]⟩
    case round =>
      obtain ⟨k, hk, rfl, rfl⟩ := hrel
      have hcx : k < len → w.cell? ⟨b, off + k, none⟩ = some (.int .u8 (bs[k]?.getD 0)) := fun h => hc k h
      have hfx : k < len → (filled bs k)[k]? = some (Value.int .u8 0) := fun h => filled_at bs k (by omega)
      have HL : Hid (bs.length = len) := hl
      clear hc h3 hmk hl
      go_wp2
      · go_roundw
        case rel =>
          refine ⟨k + 1, by omega, by go_num, ?_⟩
          rw [filled_step]
        case measure => simp [intOf]; omega
      · go_ret
        refine ⟨rfl, ?_⟩
        rw [filled_end bs k (by have := HL.out; omega)]
end Go.Proofs.YtdcaicoomldmgaaGreatDoor
