/- Texts put together: NumA NumB TxtA TokA TokD TokE CmpA CmpC CmpD OrdA TxtC TokF MrkA OwnA TriA -/
import Derived.Test.YtganfiajhokkmaaDoorRows
import Derived.WalkKit
import Derived.WalkSpells
import Derived.WalkLawsBesides
import Derived.ProofKit
import Derived.OpenShut
import Derived.Deep.Light
import Derived.Deep.OwnRows
import Derived.Deep.Draws
import Derived.BigQuiet
import Derived.Deep.QuietTactic
import Derived.Deep.RegionWith
import Derived.Lib.Bytealg
import Derived.Lib.Bytes
import Derived.Laws.BytesArg
import Derived.Laws.Externs
import Derived.Deep.RegionHeld3
import Derived.Lib.ConvBytes
import Derived.ChangeOld
import Derived.Lib.SmallJoins
/- NumA -/
namespace Go.Proofs.YtganfiajhokkmaaDoor
open Go.RowKit

theorem bl_alloc {w w' : World} (h : Below w.heap.size w w') (o : Obj) : Below w.heap.size w (w'.alloc o) := h.alloc h.size o
theorem bl_trans {w w' w'' : World} (h : Below w.heap.size w w') (k : Below w'.heap.size w' w'') : Below w.heap.size w w'' := h.trans (k.mono h.size)
theorem bl_set {w w' : World} (h : Below w.heap.size w w') {p : Addr} (hp : w.heap.size ≤ p.block) (u : Value) : Below w.heap.size w (w'.setCell p u) := h.setCell hp u

def norm : Nat → Int → Int × Int
  | 0, n => (n, 0)
  | s + 1, n => if n.tmod 10 = 0 then norm s (n.tdiv 10) else (n, (s : Int) + 1)

theorem norm_step (k : Nat) (m : Int) (h : 0 < k) (hm : (m.tmod 10 == 0) = true) : norm (k - 1) (m.tdiv 10) = norm k m := by
  obtain ⟨j, rfl⟩ : ∃ j, k = j + 1 := ⟨k - 1, by omega⟩
  have : m.tmod 10 = 0 := by simpa using hm
  simp [norm, this]
theorem norm_stop (k : Nat) (m : Int) (h : 0 < k) (hm : (m.tmod 10 == 0) = false) : norm k m = (m, (k : Int)) := by
  obtain ⟨j, rfl⟩ : ∃ j, k = j + 1 := ⟨k - 1, by omega⟩
  have : ¬ m.tmod 10 = 0 := by simpa using hm
  simp [norm, this]
theorem norm_zero (k : Nat) (m : Int) (h : ¬ 0 < k) : norm k m = (m, (k : Int)) := by
  obtain rfl : k = 0 := by omega
  simp [norm]

theorem tdiv10_lo (m : Int) (h : -9223372036854775808 ≤ m) : -9223372036854775808 ≤ m.tdiv 10 := by
  rcases Int.le_total 0 m with p | p
  · have := Int.tdiv_nonneg p (by decide : (0:Int) ≤ 10); omega
  · obtain ⟨q, rfl⟩ : ∃ q, m = -q := ⟨-m, by omega⟩
    rw [Int.neg_tdiv, Int.tdiv_eq_ediv_of_nonneg (by omega)]; omega
theorem tdiv10_hi (m : Int) (h : m ≤ 9223372036854775807) : m.tdiv 10 ≤ 9223372036854775807 := by
  rcases Int.le_total 0 m with p | p
  · rw [Int.tdiv_eq_ediv_of_nonneg p]; omega
  · obtain ⟨q, rfl⟩ : ∃ q, m = -q := ⟨-m, by omega⟩
    rw [Int.neg_tdiv, Int.tdiv_eq_ediv_of_nonneg (by omega)]; omega
theorem norm_bounds (s : Nat) (n : Int) (h1 : -9223372036854775808 ≤ n) (h2 : n ≤ 9223372036854775807) :
    -9223372036854775808 ≤ (norm s n).1 ∧ (norm s n).1 ≤ 9223372036854775807 ∧ 0 ≤ (norm s n).2 ∧ (norm s n).2 ≤ s := by
  induction s generalizing n with
  | zero => simp [norm]; omega
  | succ s ih =>
    unfold norm
    split
    · have := ih (n.tdiv 10) (tdiv10_lo n h1) (tdiv10_hi n h2); omega
    · simp; omega

theorem l1norm_any (n : Int) (s : Nat) (w : World) (h1 : -9223372036854775808 ≤ n) (h2 : n ≤ 9223372036854775807) (_hs : s ≤ 12) :
    Calls Tryd.prog 56 #[.int .i64 n, .int .i64 s] w fun e w' =>
      e = .returned (.agg #[.int .i64 3, .slice none 0 0, .int .i64 (norm s n).1, .int .i64 (norm s n).2]) ∧ ∃ o1, w' = w.alloc o1 := by
  go_enter Tryd.func56, Tryd.ntmps56
  go_wp2
  go_loop [0, 1] (fun a b => ∃ (k : Nat) (m : Int), k ≤ s ∧ -9223372036854775808 ≤ m ∧ m ≤ 9223372036854775807 ∧ norm k m = norm s n ∧ a = .int .i64 m ∧ b = .int .i64 k)
    (fun _ b => (intOf b).toNat)
  case atStart => exact ⟨s, n, by omega, h1, h2, rfl, rfl, rfl⟩
  case round =>
    obtain ⟨k, m, hk, hm1, hm2, hn, rfl, rfl⟩ := hrel
    have HN : Hid (norm k m = norm s n) := hn
    clear hn
    go_wp2
    · go_round
      case rel =>
        have hp : 0 < k := by assumption
        exact ⟨k - 1, m.tdiv 10, by omega, tdiv10_lo m hm1, tdiv10_hi m hm2, (norm_step k m hp (by assumption)).trans HN.out, rfl, by go_num⟩
      case measure => simp [intOf]; omega
    · have hp : 0 < k := by assumption
      have e := HN.out.symm.trans (norm_stop k m hp (by assumption))
      rw [e]
      simp [bodyPost, results, Tryd.results56, go_sem]
      exact ⟨_, rfl⟩
    · have hp : ¬ 0 < k := by assumption
      have e := HN.out.symm.trans (norm_zero k m hp)
      rw [e]
      simp [bodyPost, results, Tryd.results56, go_sem]
      exact ⟨_, rfl⟩

/-- A number that may be. -/
def numOk (n s : Int) : Bool := decide (0 ≤ s) && decide (s ≤ 6) && decide (-1000000000000000 ≤ n) && decide (n ≤ 1000000000000000) && (s == 0 || n.tmod 10 != 0)

theorem specTermOk_num (n s : Int) (w : World) (_h1 : -9223372036854775808 ≤ n) (_h2 : n ≤ 9223372036854775807) (_h3 : -9223372036854775808 ≤ s) (_h4 : s ≤ 9223372036854775807) :
    Calls Tryd.prog 57 #[.agg #[.int .i64 3, .slice none 0 0, .int .i64 n, .int .i64 s]] w fun e w' =>
      e = .returned (.bool (numOk n s)) ∧ ∃ o1, w' = w.alloc o1 := by
  go_enter Tryd.func57, Tryd.ntmps57
  go_wp2
  all_goals go_ret
  all_goals refine ⟨?_, _, rfl⟩
  all_goals (simp [numOk]; try omega)

theorem within_any (n a b : Int) (w : World) :
    Calls Tryd.prog 28 #[.int .i64 n, .int .i64 a, .int .i64 b] w fun e w' => e = .returned (.bool (decide (a ≤ n) && decide (n ≤ b))) ∧ w' = w := by
  go_enter Tryd.func28, Tryd.ntmps28
  go_wp2
  all_goals go_ret
  all_goals (refine ⟨?_, rfl⟩; simp [*]; try omega)

theorem decOk_any (n s : Int) (w : World) (_h1 : -9223372036854775808 ≤ n) (_h2 : n ≤ 9223372036854775807) (_h3 : -9223372036854775808 ≤ s) (_h4 : s ≤ 9223372036854775807) :
    Calls Tryd.prog 51 #[.agg #[.int .i64 n, .int .i64 s]] w fun e w' =>
      e = .returned (.bool (numOk n s)) ∧ ∃ o1, w' = w.alloc o1 := by
  go_enter Tryd.func51, Tryd.ntmps51
  go_wp2
  all_goals go_ret
  all_goals refine ⟨?_, _, rfl⟩
  all_goals (go_light; simp_all [numOk]; try omega)

/-- What a number's fields become: the number, or nothing where it is none. -/
def tK (p : Int × Int) : Int := if numOk p.1 p.2 then 3 else 0
def tN (p : Int × Int) : Int := if numOk p.1 p.2 then p.1 else 0
def tS (p : Int × Int) : Int := if numOk p.1 p.2 then p.2 else 0

end Go.Proofs.YtganfiajhokkmaaDoor

/- NumB -/
namespace Go.Proofs.YtganfiajhokkmaaDoor
open Go.RowKit

/-- The number's parts at whatever scale: (0, 7) is none. -/
def numP (n s : Int) : Int × Int := if 0 ≤ s ∧ s ≤ 6 then norm s.toNat n else (0, 7)

theorem specNum_any (n s : Int) (w : World) (h1 : -9223372036854775808 ≤ n) (h2 : n ≤ 9223372036854775807) :
    Calls Tryd.prog 45 #[.int .i64 n, .int .i64 s] w fun e w' =>
      e = .returned (.tuple #[.agg #[.int .i64 (tK (numP n s)), .slice none 0 0, .int .i64 (tN (numP n s)), .int .i64 (tS (numP n s))], .bool (numOk (numP n s).1 (numP n s).2)]) ∧ Below w.heap.size w w' := by
  by_cases hs : 0 ≤ s ∧ s ≤ 6
  · obtain ⟨k, rfl⟩ : ∃ k : Nat, s = k := ⟨s.toNat, by omega⟩
    have hp : numP n k = norm k n := by simp [numP, hs]
    rw [hp]
    obtain ⟨b1, b2, b3, b4⟩ := norm_bounds k n h1 h2
    by_cases ok : numOk (norm k n).1 (norm k n).2 = true
    · go_enter Tryd.func45, Tryd.ntmps45
      go_wp2_with (first | (go_at_call 56; refine (l1norm_any n k _ h1 h2 (by omega)).mono ?_; rintro e w1 ⟨rfl, o1, rfl⟩) | (go_at_call 57; refine (specTermOk_num _ _ _ b1 b2 (by omega) (by omega)).mono ?_; rintro e w2 ⟨rfl, o2, rfl⟩))
      simp [bodyPost, results, Tryd.results45, go_sem, tK, tN, tS, ok]
      repeat (first | with_reducible exact Below.refl _ _ | with_reducible apply bl_alloc | with_reducible apply Below.drew)
    · go_enter Tryd.func45, Tryd.ntmps45
      go_wp2_with (first | (go_at_call 56; refine (l1norm_any n k _ h1 h2 (by omega)).mono ?_; rintro e w1 ⟨rfl, o1, rfl⟩) | (go_at_call 57; refine (specTermOk_num _ _ _ b1 b2 (by omega) (by omega)).mono ?_; rintro e w2 ⟨rfl, o2, rfl⟩))
      simp [bodyPost, results, Tryd.results45, go_sem, tK, tN, tS, ok]
      repeat (first | with_reducible exact Below.refl _ _ | with_reducible apply bl_alloc | with_reducible apply Below.drew)
  · have hp : numP n s = (0, 7) := by simp [numP, hs]
    rw [hp]
    by_cases h0 : 0 ≤ s
    · go_enter Tryd.func45, Tryd.ntmps45
      go_wp2
      simp [bodyPost, results, Tryd.results45, go_sem, tK, tN, tS, numOk]
      repeat (first | with_reducible exact Below.refl _ _ | with_reducible apply bl_alloc | with_reducible apply Below.drew)
    · go_enter Tryd.func45, Tryd.ntmps45
      go_wp2
      simp [bodyPost, results, Tryd.results45, go_sem, tK, tN, tS, numOk]
      repeat (first | with_reducible exact Below.refl _ _ | with_reducible apply bl_alloc | with_reducible apply Below.drew)

/-! The loops over an empty text: no round. -/
end Go.Proofs.YtganfiajhokkmaaDoor

/- TxtA -/
namespace Go.Proofs.YtganfiajhokkmaaDoor
open Go.RowKit Go.Deep

/-- The slice value's address 'a' leads, for 'len' bytes, to the numbers bs. -/
def Bs (w : World) (a : Option Addr) (len : Nat) (bs : List Int) : Prop :=
  bs.length = len ∧ len ≤ 1048576 ∧ (∀ i : Nat, 0 ≤ bs[i]?.getD 0 ∧ bs[i]?.getD 0 ≤ 255) ∧
    (len = 0 ∨ ∃ b off, a = some ⟨b, off, none⟩ ∧ b < w.heap.size ∧ ∀ i, i < len → w.cell? ⟨b, off + i, none⟩ = some (.int .u8 (bs[i]?.getD 0)))

theorem Bs.below {w w' : World} {a : Option Addr} {len : Nat} {bs : List Int} (h : Bs w a len bs) (hb : Below w.heap.size w w') : Bs w' a len bs := by
  obtain ⟨h1, h2, h3, h4⟩ := h
  refine ⟨h1, h2, h3, ?_⟩
  rcases h4 with h4 | ⟨b, off, ha, hlt, hc⟩
  · exact .inl h4
  · exact .inr ⟨b, off, ha, Nat.lt_of_lt_of_le hlt hb.size, fun i hi => (hb.cell (p := ⟨b, off + i, none⟩) hlt).trans (hc i hi)⟩

/-- The bytes as cells. -/
def cellsOf (bs : List Int) : Array Value := (bs.map (Value.int .u8)).toArray

theorem Bs.made (w : World) (bs : List Int) (len : Nat) (hl : bs.length = len) (h2 : len ≤ 1048576) (h3 : ∀ i : Nat, 0 ≤ bs[i]?.getD 0 ∧ bs[i]?.getD 0 ≤ 255) :
    Bs (w.alloc (.cells (cellsOf bs) 5)) (some ⟨w.heap.size, 0, none⟩) len bs := by
  refine ⟨hl, h2, h3, .inr ⟨w.heap.size, 0, rfl, by simp, fun i hi => ?_⟩⟩
  have hi' : i < bs.length := by omega
  simp [go_sem, cellsOf, hi']

theorem Tryd.info5 : (Tryd.prog.info? 5).map (fun i => (i.zero, i.size, i.bytes)) = some (some (.int .u8 0), 1, 1) := by kernel_rfl

/-- The row while it is filled: the first k are there. -/
def filled (bs : List Int) (k : Nat) : Array Value := (Array.range bs.length).map (fun i => Value.int .u8 (if i < k then bs[i]?.getD 0 else 0))

end Go.Proofs.YtganfiajhokkmaaDoor

/- TokA -/
namespace Go.Proofs.YtganfiajhokkmaaDoor
open Go.RowKit Go.Deep

def letter (b : Int) : Bool := decide (97 ≤ b) && decide (b ≤ 122)
def digit (b : Int) : Bool := decide (48 ≤ b) && decide (b ≤ 57)
def plainB (b : Int) : Bool := decide (32 ≤ b) && decide (b ≤ 126)
def nameOk (bs : List Int) : Bool := decide (1 ≤ bs.length) && decide (bs.length ≤ 12) && letter (bs[0]?.getD 0) && bs.all (fun b => letter b || digit b)
def textOk (bs : List Int) : Bool := decide (bs.length ≤ 30) && bs.all plainB
/-- A term that may be. -/
def termOk (k : Int) (bs : List Int) (n s : Int) : Bool :=
  if k = 0 then nameOk bs && n == 0 && s == 0
  else if k = 1 then bs.length == 0 && decide (0 ≤ n) && decide (n ≤ 999999) && s == 0
  else if k = 2 then textOk bs && n == 0 && s == 0
  else if k = 3 then bs.length == 0 && numOk n s
  else false

theorem all_of (bs : List Int) (p : Int → Bool) (H : ∀ j : Nat, j < bs.length → p (bs[j]?.getD 0) = true) : bs.all p = true := by
  rw [List.all_eq_true]
  intro x hx
  obtain ⟨i, hi, rfl⟩ := List.getElem_of_mem hx
  have := H i hi
  simpa [hi] using this
theorem all_not (bs : List Int) (p : Int → Bool) (k : Nat) (h : k < bs.length) (H : p (bs[k]?.getD 0) = false) : bs.all p = false := by
  rw [List.all_eq_false]
  refine ⟨bs[k], List.getElem_mem h, ?_⟩
  simpa [h] using H

theorem letter_any (b : Int) (w : World) : Calls Tryd.prog 29 #[.int .u8 b] w fun e w' => e = .returned (.bool (letter b)) ∧ w' = w := by
  go_enter Tryd.func29, Tryd.ntmps29
  go_wp2
  all_goals go_ret
  all_goals (refine ⟨?_, rfl⟩; simp [letter]; try omega)
theorem digit_any (b : Int) (w : World) : Calls Tryd.prog 30 #[.int .u8 b] w fun e w' => e = .returned (.bool (digit b)) ∧ w' = w := by
  go_enter Tryd.func30, Tryd.ntmps30
  go_wp2
  all_goals go_ret
  all_goals (refine ⟨?_, rfl⟩; simp [digit]; try omega)

theorem isText_any (a : Option Addr) (len cap : Nat) (bs : List Int) (w : World) (hB : Bs w a len bs) :
    Calls Tryd.prog 50 #[.slice a len cap] w fun e w' => e = .returned (.bool (textOk bs)) ∧ w' = w := by
  obtain ⟨hl, h2, h3, h4⟩ := hB
  clear h3
  by_cases h30 : len ≤ 30
  · rcases h4 with h4 | ⟨b, off, rfl, hlt, hc⟩
    · subst h4
      have e : textOk bs = true := by simp [textOk, List.eq_nil_of_length_eq_zero hl]
      rw [e]
      clear hl
      go_enter Tryd.func50, Tryd.ntmps50
      go_wp2
      refine wp_loop_rounds 1 ?_
      rw [rounds_succ]
      go_wp2
      go_ret
      exact ⟨rfl, rfl⟩
    · have HL : Hid (bs.length = len) := hl
      clear hl
      go_enter Tryd.func50, Tryd.ntmps50
      go_wp2
      go_loop [10] (fun i => ∃ k : Nat, k ≤ len ∧ i = .int .i64 k ∧ ∀ j : Nat, j < k → plainB (bs[j]?.getD 0) = true)
        (fun i => len - (intOf i).toNat)
      case atStart => exact ⟨0, Nat.zero_le _, rfl, by intro j hj; omega⟩
      case round =>
        obtain ⟨k, hk, rfl, hH⟩ := hrel
        have HH : Hid (∀ j : Nat, j < k → plainB (bs[j]?.getD 0) = true) := hH
        have hcx : k < len → w.cell? ⟨b, off + k, none⟩ = some (.int .u8 (bs[k]?.getD 0)) := fun h => hc k h
        clear hc hH
        go_wp2
        · have hx : bs[k]?.getD 0 < 32 ∨ 126 < bs[k]?.getD 0 := by assumption
          go_ret
          refine ⟨?_, rfl⟩
          have e := all_not bs plainB k (by have := HL.out; omega) (by simp [plainB]; omega)
          simp [textOk, e]
        · have hx : 32 ≤ bs[k]?.getD 0 ∧ bs[k]?.getD 0 ≤ 126 := by assumption
          go_round
          case rel => exact ⟨k + 1, by omega, by go_num, fun j hj => by
            by_cases e : j = k
            · subst e; simp [plainB]; omega
            · exact HH.out j (by omega)⟩
          case measure => simp [intOf]; omega
        · have hx : bs[k]?.getD 0 < 32 := by assumption
          go_ret
          refine ⟨?_, rfl⟩
          have e := all_not bs plainB k (by have := HL.out; omega) (by simp [plainB]; omega)
          simp [textOk, e]
        · go_ret
          refine ⟨?_, rfl⟩
          have hl := HL.out
          have e := all_of bs plainB (fun j hj => HH.out j (by omega))
          simp [textOk, e]; omega
  · have e : textOk bs = false := by simp [textOk]; omega
    rw [e]
    clear h4
    go_enter Tryd.func50, Tryd.ntmps50
    go_wp2
    go_ret
    exact ⟨rfl, rfl⟩

theorem isName_any (a : Option Addr) (len cap : Nat) (bs : List Int) (w : World) (hB : Bs w a len bs) :
    Calls Tryd.prog 17 #[.slice a len cap] w fun e w' => e = .returned (.bool (nameOk bs)) ∧ w' = w := by
  obtain ⟨hl, h2, h3, h4⟩ := hB
  clear h3
  by_cases h0 : len = 0
  · subst h0
    have e : nameOk bs = false := by simp [nameOk, hl]
    rw [e]
    clear hl h4
    go_enter Tryd.func17, Tryd.ntmps17
    go_wp2
    go_ret
    exact ⟨rfl, rfl⟩
  obtain ⟨b, off, rfl, hlt, hc⟩ : ∃ b off, a = some ⟨b, off, none⟩ ∧ b < w.heap.size ∧ ∀ i, i < len → w.cell? ⟨b, off + i, none⟩ = some (.int .u8 (bs[i]?.getD 0)) := by
    rcases h4 with h4 | h4
    · exact absurd h4 h0
    · exact h4
  clear h4
  by_cases h12 : len ≤ 12
  · have hc0 : w.cell? ⟨b, off, none⟩ = some (.int .u8 (bs[0]?.getD 0)) := hc 0 (by omega)
    have hb1 : (1 : Int) ≤ (len : Int) := by omega
    have hb0 : (0 : Int) < (len : Int) := by omega
    have HL : Hid (bs.length = len) := hl
    clear hl
    by_cases hf : letter (bs[0]?.getD 0) = true
    · go_enter Tryd.func17, Tryd.ntmps17
      go_wp2_with (first | (go_at_call 29; refine (letter_any _ _).mono ?_; rintro e w1 ⟨rfl, rfl⟩) | go_in)
      go_loop [18] (fun i => ∃ k : Nat, k ≤ len ∧ i = .int .i64 k ∧ ∀ j : Nat, j < k → (letter (bs[j]?.getD 0) || digit (bs[j]?.getD 0)) = true)
        (fun i => len - (intOf i).toNat)
      case atStart => exact ⟨0, Nat.zero_le _, rfl, by intro j hj; omega⟩
      case round =>
        obtain ⟨k, hk, rfl, hH⟩ := hrel
        have HH : Hid (∀ j : Nat, j < k → (letter (bs[j]?.getD 0) || digit (bs[j]?.getD 0)) = true) := hH
        have HC := hc
        have HF : Hid (letter (bs[0]?.getD 0) = true) := hf
        clear hc hH hc0 hf
        by_cases hlt2 : k < len
        · have hcx := HC k hlt2
          clear HC
          generalize hg : bs[k]?.getD 0 = x at hcx
          have HG : Hid (bs[k]?.getD 0 = x) := hg
          clear hg
          have hkl : k < bs.length := by have := HL.out; omega
          by_cases h1 : letter x = true
          · go_wp2_with (first | (go_at_call 29; refine (letter_any _ _).mono ?_; rintro e w2 ⟨rfl, rfl⟩) | (go_at_call 30; refine (digit_any _ _).mono ?_; rintro e w3 ⟨rfl, rfl⟩))
            go_round
            case rel => exact ⟨k + 1, by omega, by go_num, fun j hj => by
              by_cases e : j = k
              · subst e; rw [HG.out, h1]; rfl
              · exact HH.out j (by omega)⟩
            case measure => simp [intOf]; omega
          · have h1' : letter x = false := by simpa using h1
            clear h1
            by_cases h2 : digit x = true
            · go_wp2_with (first | (go_at_call 29; refine (letter_any _ _).mono ?_; rintro e w2 ⟨rfl, rfl⟩) | (go_at_call 30; refine (digit_any _ _).mono ?_; rintro e w3 ⟨rfl, rfl⟩))
              go_round
              case rel => exact ⟨k + 1, by omega, by go_num, fun j hj => by
                by_cases e : j = k
                · subst e; rw [HG.out, h2]; simp
                · exact HH.out j (by omega)⟩
              case measure => simp [intOf]; omega
            · have h2' : digit x = false := by simpa using h2
              clear h2
              go_wp2_with (first | (go_at_call 29; refine (letter_any _ _).mono ?_; rintro e w2 ⟨rfl, rfl⟩) | (go_at_call 30; refine (digit_any _ _).mono ?_; rintro e w3 ⟨rfl, rfl⟩))
              go_ret
              refine ⟨?_, rfl⟩
              have e := all_not bs (fun b => letter b || digit b) k hkl (by show (letter _ || digit _) = false; rw [HG.out, h1', h2']; rfl)
              simp [nameOk, e]
        · clear HC
          go_wp2
          go_ret
          refine ⟨?_, rfl⟩
          have hl := HL.out
          have e := all_of bs (fun b => letter b || digit b) (fun j hj => HH.out j (by omega))
          have hf := HF.out
          simp only [nameOk, e, hf, hl]
          simp; omega
    · have hf' : letter (bs[0]?.getD 0) = false := by simpa using hf
      have e : nameOk bs = false := by simp [nameOk, hf']
      rw [e]
      clear hf
      go_enter Tryd.func17, Tryd.ntmps17
      go_wp2_with (first | (go_at_call 29; refine (letter_any _ _).mono ?_; rintro e w1 ⟨rfl, rfl⟩) | go_in)
      go_ret
      exact ⟨rfl, rfl⟩
  · have e : nameOk bs = false := by simp [nameOk, hl]; omega
    rw [e]
    have h12' : decide ((len : Int) ≤ 12) = false := by simp; omega
    clear hl hc
    go_enter Tryd.func17, Tryd.ntmps17
    go_wp2
    go_ret
    exact ⟨rfl, rfl⟩
end Go.Proofs.YtganfiajhokkmaaDoor

/- TokD -/
namespace Go.Proofs.YtganfiajhokkmaaDoor
open Go.RowKit Go.Deep

/-- A term's number. -/
theorem decimal_any (k n s : Int) (a : Option Addr) (len cap : Nat) (w : World) :
    Calls Tryd.prog 41 #[.agg #[.int .i64 k, .slice a len cap, .int .i64 n, .int .i64 s]] w fun e w' => e = .returned (.agg #[.int .i64 n, .int .i64 s]) ∧ ∃ o1 o2, w' = (w.alloc o1).alloc o2 := by
  go_enter Tryd.func41, Tryd.ntmps41
  go_wp2
  simp [bodyPost, results, Tryd.results41, go_sem]
  exact ⟨_, _, rfl⟩

set_option maxRecDepth 10000 in
theorem implTermOk_any (k n s : Int) (a : Option Addr) (len cap : Nat) (bs : List Int) (w : World) (hB : Bs w a len bs) (h1 : -9223372036854775808 ≤ n) (h2 : n ≤ 9223372036854775807) (h3 : -9223372036854775808 ≤ s) (h4 : s ≤ 9223372036854775807) :
    Calls Tryd.prog 38 #[.agg #[.int .i64 k, .slice a len cap, .int .i64 n, .int .i64 s]] w fun e w' => e = .returned (.bool (termOk k bs n s)) ∧ Below w.heap.size w w' := by
  have hB1 : ∀ o1, Bs (w.alloc o1) a len bs := fun o1 => hB.below (bl_alloc (Below.refl _ _) _)
  have HL : Hid (bs.length = len) := hB.1
  have hlm := hB.2.1
  clear hB
  by_cases k0 : k = 0
  · subst k0
    generalize hg : termOk 0 bs n s = r
    have HG : Hid (termOk 0 bs n s = r) := hg
    clear hg
    go_enter Tryd.func38, Tryd.ntmps38
    go_wp2_with (go_at_call 17; refine (isName_any a len cap bs _ (hB1 _)).mono ?_; rintro e w1 ⟨rfl, rfl⟩)
    all_goals go_ret
    all_goals (refine ⟨congrArg (fun b => Ending.returned (Value.bool b)) ?_, bl_alloc (Below.refl _ _) _⟩; rw [← HG.out]; clear HG; go_light; simp_all [termOk])
  by_cases k1 : k = 1
  · subst k1
    generalize hg : termOk 1 bs n s = r
    have HG : Hid (termOk 1 bs n s = r) := hg
    clear hg
    go_enter Tryd.func38, Tryd.ntmps38
    go_wp2_with (go_at_call 28; refine (within_any _ _ _ _).mono ?_; rintro e w1 ⟨rfl, rfl⟩)
    all_goals go_ret
    all_goals (refine ⟨congrArg (fun b => Ending.returned (Value.bool b)) ?_, bl_alloc (Below.refl _ _) _⟩; have hg := HG.out; have hl := HL.out; rw [← hg, Bool.eq_iff_iff]; go_light; simp [termOk, -List.length_eq_zero_iff]; try omega)
  by_cases k2 : k = 2
  · subst k2
    generalize hg : termOk 2 bs n s = r
    have HG : Hid (termOk 2 bs n s = r) := hg
    clear hg
    go_enter Tryd.func38, Tryd.ntmps38
    go_wp2_with (go_at_call 50; refine (isText_any a len cap bs _ (hB1 _)).mono ?_; rintro e w1 ⟨rfl, rfl⟩)
    all_goals go_ret
    all_goals (refine ⟨congrArg (fun b => Ending.returned (Value.bool b)) ?_, bl_alloc (Below.refl _ _) _⟩; rw [← HG.out]; clear HG; go_light; simp_all [termOk])
  by_cases k3 : k = 3
  · subst k3
    generalize hg : termOk 3 bs n s = r
    have HG : Hid (termOk 3 bs n s = r) := hg
    clear hg
    by_cases hl0 : len = 0
    · subst hl0
      go_enter Tryd.func38, Tryd.ntmps38
      go_wp2_with (first | (go_at_call 41; refine (decimal_any _ _ _ _ _ _ _).mono ?_; rintro e w1 ⟨rfl, o1, o2, rfl⟩) | (go_at_call 51; refine (decOk_any _ _ _ h1 h2 h3 h4).mono ?_; rintro e w2 ⟨rfl, o3, rfl⟩))
      go_ret
      refine ⟨congrArg (fun b => Ending.returned (Value.bool b)) ?_, ?_⟩
      · have hg := HG.out
        have hl := HL.out
        rw [← hg]
        simp [termOk, hl]
      · repeat (first | with_reducible exact Below.refl _ _ | with_reducible apply bl_alloc | with_reducible apply Below.drew)
    · have hl0' : ((len : Int) == 0) = false := by simp; omega
      go_enter Tryd.func38, Tryd.ntmps38
      go_wp2
      go_ret
      refine ⟨congrArg (fun b => Ending.returned (Value.bool b)) ?_, ?_⟩
      · have hg := HG.out
        have hl := HL.out
        have hz : (bs.length == 0) = false := by simp only [beq_eq_false_iff_ne, ne_eq]; omega
        rw [← hg]
        simp [termOk, hz, -List.length_eq_zero_iff, -beq_eq_false_iff_ne]
      · repeat (first | with_reducible exact Below.refl _ _ | with_reducible apply bl_alloc | with_reducible apply Below.drew)
  · have e : termOk k bs n s = false := by simp [termOk, k0, k1, k2, k3]
    rw [e]
    have g0 : (k == 0) = false := by simp; omega
    have g1 : (k == 1) = false := by simp; omega
    have g2 : (k == 2) = false := by simp; omega
    have g3 : (k == 3) = false := by simp; omega
    clear k0 k1 k2 k3 e
    go_enter Tryd.func38, Tryd.ntmps38
    go_wp2
    go_ret
    exact ⟨rfl, bl_alloc (Below.refl _ _) _⟩
end Go.Proofs.YtganfiajhokkmaaDoor

/- TokE -/
namespace Go.Proofs.YtganfiajhokkmaaDoor
open Go.RowKit Go.Deep

/-- A struct of four fields at the head of block b. -/
def At4 (w : World) (b : Nat) (v0 v1 v2 v3 : Value) : Prop :=
  b < w.heap.size ∧ w.cell? ⟨b, 0, none⟩ = some v0 ∧ w.cell? ⟨b, 1, none⟩ = some v1 ∧ w.cell? ⟨b, 2, none⟩ = some v2 ∧ w.cell? ⟨b, 3, none⟩ = some v3
theorem At4.below {w w' : World} {b : Nat} {v0 v1 v2 v3 : Value} (h : At4 w b v0 v1 v2 v3) (hb : Below w.heap.size w w') : At4 w' b v0 v1 v2 v3 := by
  obtain ⟨hl, h0, h1, h2, h3⟩ := h
  refine ⟨Nat.lt_of_lt_of_le hl hb.size, ?_, ?_, ?_, ?_⟩
  · exact (hb.cell (p := ⟨b, 0, none⟩) hl).trans h0
  · exact (hb.cell (p := ⟨b, 1, none⟩) hl).trans h1
  · exact (hb.cell (p := ⟨b, 2, none⟩) hl).trans h2
  · exact (hb.cell (p := ⟨b, 3, none⟩) hl).trans h3
theorem At4.new (w : World) (v0 v1 v2 v3 : Value) (t : TypeId) : At4 (w.alloc (.cells #[v0, v1, v2, v3] t)) w.heap.size v0 v1 v2 v3 := by
  refine ⟨by simp, ?_, ?_, ?_, ?_⟩ <;> simp [go_sem]
theorem bl_a {w : World} (o : Obj) : Below w.heap.size w (w.alloc o) := bl_alloc (Below.refl _ _) o

end Go.Proofs.YtganfiajhokkmaaDoor

/- CmpA -/
namespace Go.Proofs.YtganfiajhokkmaaDoor
open Go.RowKit Go.Deep

/-- 10 to the k. -/
def p10 : Nat → Int
  | 0 => 1
  | k + 1 => p10 k * 10
theorem p10_pos (k : Nat) : 1 ≤ p10 k := by
  induction k with
  | zero => simp [p10]
  | succ k ih => unfold p10; omega
theorem p10_mono {j k : Nat} (h : j ≤ k) : p10 j ≤ p10 k := by
  induction h with
  | refl => exact Int.le_refl _
  | @step m _ ih =>
    have e : p10 m.succ = p10 m * 10 := rfl
    have := p10_pos m
    omega
theorem p10_le {k : Nat} (h : k ≤ 6) : p10 k ≤ 1000000 := by
  have := p10_mono h
  have e : p10 6 = 1000000 := by decide
  omega

theorem tenTo_any (k : Nat) (w : World) (hk : k ≤ 6) : Calls Tryd.prog 53 #[.int .i64 k] w fun e w' => e = .returned (.int .i64 (p10 k)) ∧ w' = w := by
  go_enter Tryd.func53, Tryd.ntmps53
  go_wp2
  go_loop [3, 5] (fun n i => ∃ j : Nat, j ≤ k ∧ n = .int .i64 (p10 j) ∧ i = .int .i64 j) (fun _ i => k - (intOf i).toNat)
  case atStart => exact ⟨0, Nat.zero_le _, rfl, rfl⟩
  case round =>
    obtain ⟨j, hj, rfl, rfl⟩ := hrel
    have b1 := p10_pos j
    have b2 := p10_le (Nat.le_trans hj hk)
    go_wp2
    · go_round
      case rel => exact ⟨j + 1, by omega, by rfl, by go_num⟩
      case measure => simp [intOf]; omega
    · go_ret
      have e : j = k := by omega
      rw [e]
      exact ⟨rfl, rfl⟩

end Go.Proofs.YtganfiajhokkmaaDoor

/- CmpC -/
namespace Go.Proofs.YtganfiajhokkmaaDoor
open Go.RowKit Go.Deep

theorem run_loadBytes {P : Program} (w : World) (b : Nat) : ∀ (n off : Nat) (bs : List Int) (acc : ByteArray), bs.length = n → (∀ i, i < n → w.cell? ⟨b, off + i, none⟩ = some (.int .u8 (bs[i]?.getD 0))) →
    (Extern.Bytes.loadBytes ⟨b, off, none⟩ n acc).run P w = .ok (bs.foldl (fun r n => r.push (UInt8.ofNat n.toNat)) acc) w
  | 0, off, bs, acc, hl, _ => by
    rw [List.eq_nil_of_length_eq_zero hl]
    rfl
  | n + 1, off, [], acc, hl, _ => by simp at hl
  | n + 1, off, x :: bs, acc, hl, hc => by
    have h0 : w.cell? ⟨b, off, none⟩ = some (.int .u8 x) := by simpa using hc 0 (by omega)
    have ih := run_loadBytes (P := P) w b n (off + 1) bs (acc.push (UInt8.ofNat x.toNat)) (by simpa using hl) (fun i hi => by
      have := hc (i + 1) (by omega)
      simp at this
      rw [show off + 1 + i = off + (i + 1) by omega]
      exact this)
    have ea : (⟨b, off, none⟩ : Addr).add 1 = ⟨b, off + 1, none⟩ := by simp [Addr.add]
    have hld : (load ⟨b, off, none⟩).run P w = .ok (.int .u8 x) w := by simp [go_sem, h0]
    unfold Extern.Bytes.loadBytes
    simp only [Sem.run_bind, hld, Result.andThen]
    rw [ea]
    exact ih

theorem Bs.bytes {P : Program} {w : World} {a : Option Addr} {len cap : Nat} {bs : List Int} (h : Bs w a len bs) : (Extern.Bytes.bytesOf (.slice a len cap)).run P w = .ok (strOfNums bs) w := by
  obtain ⟨hl, _, _, h4⟩ := h
  rcases h4 with h4 | ⟨b, off, rfl, _, hc⟩
  · subst h4
    have e : bs = [] := List.eq_nil_of_length_eq_zero hl
    subst e
    cases a with
    | none => rfl
    | some x => rfl
  · have := run_loadBytes (P := P) w b len off bs .empty hl hc
    show (Extern.Bytes.loadBytes ⟨b, off, none⟩ len .empty).run P w = _
    rw [this, foldl_push_bytes]
    simp [strOfNums, ByteArray.empty, ByteArray.emptyWithCapacity]
    rfl

end Go.Proofs.YtganfiajhokkmaaDoor

/- CmpD -/
namespace Go.Proofs.YtganfiajhokkmaaDoor
open Go.RowKit Go.Deep

theorem At4.at (w : World) (b : Nat) (v0 v1 v2 v3 : Value) (t : TypeId) (e : b = w.heap.size) : At4 (w.alloc (.cells #[v0, v1, v2, v3] t)) b v0 v1 v2 v3 := by
  subst e; exact At4.new w v0 v1 v2 v3 t

end Go.Proofs.YtganfiajhokkmaaDoor

/- OrdA -/
namespace Go.Proofs.YtganfiajhokkmaaDoor
open Go.RowKit Go.Deep

/-- A term's parts. -/
structure TD where
  k : Int
  bs : List Int
  n : Int
  s : Int
def TD.ok (x : TD) : Bool := termOk x.k x.bs x.n x.s
end Go.Proofs.YtganfiajhokkmaaDoor

/- TxtC -/
namespace Go.Proofs.YtganfiajhokkmaaDoor
open Go.RowKit Go.Deep

/-- A text that is none, or lies in a block of its own from B on; what is behind it may be written. -/
def Tx (w : World) (B : Nat) (a : Option Addr) (len cap : Nat) (bs : List Int) : Prop :=
  Bs w a len bs ∧ ((a = none ∧ len = 0 ∧ cap = 0) ∨ ∃ g, a = some ⟨g, 0, none⟩ ∧ B ≤ g ∧ g < w.heap.size ∧ len ≤ cap ∧ ∀ j, j < cap → (∃ v, w.cell? ⟨g, j, none⟩ = some (.int .u8 v)) ∧ w.frozen? ⟨g, j, none⟩ = false)
theorem Tx.below {w w' : World} {B : Nat} {a : Option Addr} {len cap : Nat} {bs : List Int} (h : Tx w B a len cap bs) (hb : Below w.heap.size w w') : Tx w' B a len cap bs := by
  refine ⟨h.1.below hb, ?_⟩
  rcases h.2 with h2 | ⟨g, ha, hB, hg, hl, hc⟩
  · exact .inl h2
  · refine .inr ⟨g, ha, hB, Nat.lt_of_lt_of_le hg hb.size, hl, fun j hj => ?_⟩
    rw [hb.cell (p := ⟨g, j, none⟩) hg, hb.frozen (p := ⟨g, j, none⟩) hg]
    exact hc j hj
theorem Tx.mono {w : World} {B B' : Nat} {a : Option Addr} {len cap : Nat} {bs : List Int} (h : Tx w B a len cap bs) (hB : B' ≤ B) : Tx w B' a len cap bs := by
  refine ⟨h.1, ?_⟩
  rcases h.2 with h2 | ⟨g, ha, hg, hr⟩
  · exact .inl h2
  · exact .inr ⟨g, ha, Nat.le_trans hB hg, hr⟩
theorem Tx.nil (w : World) (B : Nat) : Tx w B none 0 0 [] := ⟨⟨rfl, by omega, by simp, .inl rfl⟩, .inl ⟨rfl, rfl, rfl⟩⟩

def numsOf (s : ByteArray) : List Int := s.data.toList.map (fun b => (b.toNat : Int))
theorem Tx.conv (w : World) (s : ByteArray) (e : TypeId) (hs : s.size ≤ 1048576) : Tx (Lib.bytesWorld w e s) w.heap.size (some ⟨w.heap.size, 0, none⟩) s.size (grownCap w s.size 0 e) (numsOf s) := by
  have hge := grownCap_ge w s.size 0 e
  refine ⟨⟨by simp [numsOf], hs, fun i => ?_, .inr ⟨w.heap.size, 0, rfl, by rw [Lib.bytesWorld_size]; omega, fun i hi => ?_⟩⟩, .inr ⟨w.heap.size, rfl, Nat.le_refl _, by rw [Lib.bytesWorld_size]; omega, hge, fun j hj => ?_⟩⟩
  · by_cases h : i < s.data.toList.length
    · have hb := (s.data.toList[i]).toNat_lt
      simp only [numsOf, List.getElem?_map, List.getElem?_eq_getElem h, Option.map_some, Option.getD_some]
      omega
    · simp only [numsOf, List.getElem?_map, List.getElem?_eq_none (Nat.le_of_not_lt h), Option.map_none, Option.getD_none]
      omega
  · rw [Nat.zero_add, Lib.bytesWorld_cell w e s i hi]
    have h : i < s.data.toList.length := by simpa using hi
    simp only [numsOf, List.getElem?_map, List.getElem?_eq_getElem h, Option.map_some, Option.getD_some, List.getD_eq_getElem?_getD]
  · have hsz : (Lib.bytesCells w e s).size = grownCap w s.size 0 e := by
      simp [Lib.bytesCells]
      omega
    refine ⟨?_, ?_⟩
    · have hj' : j < (Lib.bytesCells w e s).size := by omega
      simp only [World.cell?, Lib.bytesWorld_at_new]
      by_cases hjs : j < s.size
      · exact ⟨(s.data[j]'hjs).toNat, by simp [Lib.bytesCells, Array.getElem?_append, hjs]⟩
      · refine ⟨0, ?_⟩
        have h1 : ¬ j < (s.data.map fun b => Value.int .u8 b.toNat).size := by simpa using hjs
        have h2 : j - (s.data.map fun b => Value.int .u8 b.toNat).size < grownCap w s.size 0 e - s.size := by simp; omega
        rw [Lib.bytesCells, Array.getElem?_append, if_neg h1, Array.getElem?_replicate, if_pos h2]
        rfl
    · simp only [World.frozen?, Lib.bytesWorld_at_new, hsz]
      simp
      omega
theorem bytesWorld_below (w : World) (e : TypeId) (s : ByteArray) : Below w.heap.size w (Lib.bytesWorld w e s) := by
  refine ⟨?_, ?_, ?_, by rw [Lib.bytesWorld_size]; omega, fun b hb => Lib.bytesWorld_at_old w e s b hb⟩ <;> rfl

/-- A list of bytes. -/
def Byt (l : List Int) : Prop := ∀ x ∈ l, 0 ≤ x ∧ x ≤ 255
theorem Byt.get {l : List Int} (h : Byt l) (i : Nat) : 0 ≤ l[i]?.getD 0 ∧ l[i]?.getD 0 ≤ 255 := by
  by_cases hi : i < l.length
  · rw [List.getElem?_eq_getElem hi]
    exact h _ (List.getElem_mem hi)
  · rw [List.getElem?_eq_none (by omega)]
    simp
theorem Byt.of {l : List Int} (h : ∀ i : Nat, 0 ≤ l[i]?.getD 0 ∧ l[i]?.getD 0 ≤ 255) : Byt l := by
  intro x hx
  obtain ⟨i, hi, rfl⟩ := List.getElem_of_mem hx
  have := h i
  rwa [List.getElem?_eq_getElem hi] at this
theorem Byt.app {l m : List Int} (h : Byt l) (k : Byt m) : Byt (l ++ m) := by
  intro x hx
  rcases List.mem_append.1 hx with hx | hx
  · exact h x hx
  · exact k x hx
theorem Byt.cons {a : Int} {l : List Int} (ha : 0 ≤ a ∧ a ≤ 255) (h : Byt l) : Byt (a :: l) := by
  intro x hx
  rcases List.mem_cons.1 hx with rfl | hx
  · exact ha
  · exact h x hx
theorem Byt.nil : Byt [] := fun x hx => by cases hx
theorem Bs.byt {w : World} {a : Option Addr} {len : Nat} {bs : List Int} (h : Bs w a len bs) : Byt bs := Byt.of h.2.2.1

theorem numsOf_append (s t : ByteArray) : numsOf (s ++ t) = numsOf s ++ numsOf t := by simp [numsOf]
theorem numsOf_len (s : ByteArray) : (numsOf s).length = s.size := by simp [numsOf]
theorem numsOf_nums {bs : List Int} (h : Byt bs) : numsOf (strOfNums bs) = bs := by
  unfold numsOf
  rw [strOfNums_data, List.map_map]
  have : ∀ x ∈ bs, ((fun b : UInt8 => (b.toNat : Int)) ∘ fun n : Int => UInt8.ofNat n.toNat) x = x := by
    intro x hx
    obtain ⟨h0, h1⟩ := h x hx
    simp
    omega
  rw [List.map_congr_left this, List.map_id']
theorem Bs.str {w : World} {a : Option Addr} {len cap : Nat} {bs : List Int} (h : Bs w a len bs) : (convert 22 9 (.slice a len cap)).run Tryd.prog w = .ok (.string (strOfNums bs)) w := by
  obtain ⟨hl, _, _, h4⟩ := h
  rcases h4 with h4 | ⟨b, off, rfl, _, hc⟩
  · subst h4
    have e : bs = [] := List.eq_nil_of_length_eq_zero hl
    subst e
    cases a with
    | none =>
      rw [run_convert_bytes_nil w 22 5 Tryd.underlying22 Tryd.underlying5 0 cap 9 Tryd.underlying9]
      rfl
    | some x =>
      have hl : (loadCells x 0).run Tryd.prog w = .ok (([] : List Int).map (Value.int .u8)).toArray w := rfl
      rw [run_convert_bytes_string w 22 9 5 _ 0 cap Tryd.underlying22 Tryd.underlying5 Tryd.underlying9, run_bytesToString w _ 0 cap [] hl]
      rfl
  · exact run_convert_bytes_arg w 22 5 Tryd.underlying22 Tryd.underlying5 b off len cap bs hl (fun i hi => by rw [hc i hi, List.getD_eq_getElem?_getD]) 9 Tryd.underlying9
end Go.Proofs.YtganfiajhokkmaaDoor

/- TokF -/
namespace Go.Proofs.YtganfiajhokkmaaDoor
open Go.ChangeShapes Go.WideShapes Go.ChangeAt Go.RowKit Go.Joins

theorem own : ownKnob Tryd.prog.godebug = none := by kernel_rfl
theorem laidOut : laidOutB Tryd.prog = true := by kernel_rfl
theorem Tryd.cells5 : Tryd.prog.cellsOf 5 = 1 := by kernel_rfl

theorem cell_lt {w : World} {a : Addr} {v : Value} (h : w.cell? a = some v) : a.block < w.heap.size := by
  apply Classical.byContradiction
  intro hn
  have e : w.heap[a.block]? = none := by simp; omega
  simp [World.cell?, e] at h

end Go.Proofs.YtganfiajhokkmaaDoor

/- MrkA -/
namespace Go.Proofs.YtganfiajhokkmaaDoor
open Go.RowKit Go.Deep

/-- All blocks but g are as they were. -/
structure But (g : Nat) (w w' : World) : Prop where
  os : w'.os = w.os
  tape : w'.tape = w.tape
  output : w'.output = w.output
  size : w'.heap.size = w.heap.size
  block : ∀ b, b ≠ g → w'.heap[b]? = w.heap[b]?
theorem But.refl (g : Nat) (w : World) : But g w w := ⟨rfl, rfl, rfl, rfl, fun _ _ => rfl⟩
theorem But.set {g : Nat} {w w' : World} (h : But g w w') (i : Nat) (v : Value) : But g w (w'.setCell ⟨g, i, none⟩ v) :=
  ⟨h.os, h.tape, h.output, by simpa using h.size, fun b hb => (Below.heap_setCell _ _ _ _ hb).trans (h.block b hb)⟩
theorem But.cell {g : Nat} {w w' : World} (h : But g w w') {p : Addr} (hp : p.block ≠ g) : w'.cell? p = w.cell? p := World.cell?_of_block (w := w) (h.block p.block hp)
theorem But.frozen {g : Nat} {w w' : World} (h : But g w w') {p : Addr} (hp : p.block ≠ g) : w'.frozen? p = w.frozen? p := World.frozen?_of_block (w := w) (h.block p.block hp)
theorem But.below {g B : Nat} {w w' : World} (h : But g w w') (hg : B ≤ g) : Below B w w' :=
  ⟨h.os, h.tape, h.output, by rw [h.size]; exact Nat.le_refl _, fun b hb => h.block b (by omega)⟩

theorem set_same {w : World} {g i : Nat} {u v : Value} (h : w.cell? ⟨g, i, none⟩ = some u) : (w.setCell ⟨g, i, none⟩ v).cell? ⟨g, i, none⟩ = some v := by
  simp [go_sem, h]
theorem set_other {w : World} {g i j : Nat} {v : Value} (h : i ≠ j) : (w.setCell ⟨g, j, none⟩ v).cell? ⟨g, i, none⟩ = w.cell? ⟨g, i, none⟩ := by
  simp [go_sem]

end Go.Proofs.YtganfiajhokkmaaDoor

/- OwnA -/
namespace Go.Proofs.YtganfiajhokkmaaDoor
open Go.RowKit Go.Deep

/-- A text of the call's own in block g: what it holds, and that it may be written. -/
def OwnT (w : World) (g len : Nat) (bs : List Int) : Prop :=
  Bs w (some ⟨g, 0, none⟩) len bs ∧ g < w.heap.size ∧ (∀ i, i < len → ∃ v, w.cell? ⟨g, i, none⟩ = some (.int .u8 v)) ∧ (∀ i, i < len → w.frozen? ⟨g, i, none⟩ = false)
theorem OwnT.below {w w' : World} {g len : Nat} {bs : List Int} (h : OwnT w g len bs) (hb : Below w.heap.size w w') : OwnT w' g len bs := by
  obtain ⟨h1, h2, h3, h4⟩ := h
  refine ⟨h1.below hb, Nat.lt_of_lt_of_le h2 hb.size, fun i hi => ?_, fun i hi => (hb.frozen (p := ⟨g, i, none⟩) h2).trans (h4 i hi)⟩
  obtain ⟨v, hv⟩ := h3 i hi
  exact ⟨v, (hb.cell (p := ⟨g, i, none⟩) h2).trans hv⟩
theorem Bs.but {w w' : World} {g b len : Nat} {bs : List Int} (h : Bs w (some ⟨b, 0, none⟩) len bs) (hb : But g w w') (hne : b ≠ g) : Bs w' (some ⟨b, 0, none⟩) len bs := by
  obtain ⟨h1, h2, h3, h4⟩ := h
  refine ⟨h1, h2, h3, ?_⟩
  rcases h4 with h4 | ⟨b', off, ha, hlt, hc⟩
  · exact .inl h4
  · cases ha
    exact .inr ⟨b, 0, rfl, by rw [hb.size]; exact hlt, fun i hi => (hb.cell (p := ⟨b, 0 + i, none⟩) hne).trans (hc i hi)⟩
theorem OwnT.but {w w' : World} {g b len : Nat} {bs : List Int} (h : OwnT w b len bs) (hb : But g w w') (hne : b ≠ g) : OwnT w' b len bs := by
  obtain ⟨h1, h2, h3, h4⟩ := h
  refine ⟨h1.but hb hne, by rw [hb.size]; exact h2, fun i hi => ?_, fun i hi => (hb.frozen (p := ⟨b, i, none⟩) hne).trans (h4 i hi)⟩
  obtain ⟨v, hv⟩ := h3 i hi
  exact ⟨v, (hb.cell (p := ⟨b, i, none⟩) hne).trans hv⟩
theorem At4.but {w w' : World} {g b : Nat} {v0 v1 v2 v3 : Value} (h : At4 w b v0 v1 v2 v3) (hb : But g w w') (hne : b ≠ g) : At4 w' b v0 v1 v2 v3 := by
  obtain ⟨hl, h0, h1, h2, h3⟩ := h
  exact ⟨by rw [hb.size]; exact hl, (hb.cell (p := ⟨b, 0, none⟩) hne).trans h0, (hb.cell (p := ⟨b, 1, none⟩) hne).trans h1, (hb.cell (p := ⟨b, 2, none⟩) hne).trans h2, (hb.cell (p := ⟨b, 3, none⟩) hne).trans h3⟩
end Go.Proofs.YtganfiajhokkmaaDoor

/- TriA -/
namespace Go.Proofs.YtganfiajhokkmaaDoor
open Go.RowKit Go.Deep

/-- A term's parts: kind, text's place, length and room, number, scale. -/
structure Tm where
  k : Int
  a : Option Addr
  len : Nat
  cap : Nat
  n : Int
  s : Int
/-- A term whose text lies in a block of its own. -/
def Tm.own (t : Tm) (g : Nat) : Tm := ⟨t.k, some ⟨g, 0, none⟩, t.len, t.len, t.n, t.s⟩
/-- Its numbers are of 64 bits. -/
def Tm.fits (t : Tm) : Prop := -9223372036854775808 ≤ t.n ∧ t.n ≤ 9223372036854775807 ∧ -9223372036854775808 ≤ t.s ∧ t.s ≤ 9223372036854775807
/-- Three terms in a row from place o on in block b. -/
def At12 (w : World) (b : Nat) (t u v : Tm) : Prop :=
  b < w.heap.size ∧
    (w.cell? ⟨b, 0, none⟩ = some (.int .i64 t.k) ∧ w.cell? ⟨b, 1, none⟩ = some (.slice t.a t.len t.cap) ∧ w.cell? ⟨b, 2, none⟩ = some (.int .i64 t.n) ∧ w.cell? ⟨b, 3, none⟩ = some (.int .i64 t.s)) ∧
    (w.cell? ⟨b, 4, none⟩ = some (.int .i64 u.k) ∧ w.cell? ⟨b, 5, none⟩ = some (.slice u.a u.len u.cap) ∧ w.cell? ⟨b, 6, none⟩ = some (.int .i64 u.n) ∧ w.cell? ⟨b, 7, none⟩ = some (.int .i64 u.s)) ∧
    (w.cell? ⟨b, 8, none⟩ = some (.int .i64 v.k) ∧ w.cell? ⟨b, 9, none⟩ = some (.slice v.a v.len v.cap) ∧ w.cell? ⟨b, 10, none⟩ = some (.int .i64 v.n) ∧ w.cell? ⟨b, 11, none⟩ = some (.int .i64 v.s))
theorem At12.below {w w' : World} {b : Nat} {t u v : Tm} (h : At12 w b t u v) (hb : Below w.heap.size w w') : At12 w' b t u v := by
  obtain ⟨hl, h⟩ := h
  have e : ∀ i, w'.cell? ⟨b, i, none⟩ = w.cell? ⟨b, i, none⟩ := fun i => hb.cell (p := ⟨b, i, none⟩) hl
  refine ⟨Nat.lt_of_lt_of_le hl hb.size, ?_⟩
  simp only [e]
  exact h
/-- .. and they may be written. -/
def Own12 (w : World) (b : Nat) (t u v : Tm) : Prop := At12 w b t u v ∧ ∀ i, i < 12 → w.frozen? ⟨b, i, none⟩ = false
theorem Own12.below {w w' : World} {b : Nat} {t u v : Tm} (h : Own12 w b t u v) (hb : Below w.heap.size w w') : Own12 w' b t u v :=
  ⟨h.1.below hb, fun i hi => (hb.frozen (p := ⟨b, i, none⟩) h.1.1).trans (h.2 i hi)⟩
def cells12 (t u v : Tm) : Array Value := #[.int .i64 t.k, .slice t.a t.len t.cap, .int .i64 t.n, .int .i64 t.s, .int .i64 u.k, .slice u.a u.len u.cap, .int .i64 u.n, .int .i64 u.s, .int .i64 v.k, .slice v.a v.len v.cap, .int .i64 v.n, .int .i64 v.s]
theorem Own12.at (w : World) (b : Nat) (t u v : Tm) (T : TypeId) (e : b = w.heap.size) : Own12 (w.alloc (.cells (cells12 t u v) T)) b t u v := by
  subst e
  refine ⟨⟨by simp, ⟨?_, ?_, ?_, ?_⟩, ⟨?_, ?_, ?_, ?_⟩, ⟨?_, ?_, ?_, ?_⟩⟩, fun i hi => ?_⟩
  all_goals simp [go_sem, cells12]
/-- A term's four cells written at places i, i+1, i+2, i+3. -/
def put4 (w : World) (b i0 i1 i2 i3 : Nat) (t : Tm) : World := (((w.setCell ⟨b, i0, none⟩ (.int .i64 t.k)).setCell ⟨b, i1, none⟩ (.slice t.a t.len t.cap)).setCell ⟨b, i2, none⟩ (.int .i64 t.n)).setCell ⟨b, i3, none⟩ (.int .i64 t.s)
theorem put4_size {w : World} {b i0 i1 i2 i3 : Nat} {x : Tm} : (put4 w b i0 i1 i2 i3 x).heap.size = w.heap.size := by simp [put4]
theorem Bs.put {w : World} {g len : Nat} {bs : List Int} {c i0 i1 i2 i3 : Nat} {x : Tm} (h : Bs w (some ⟨g, 0, none⟩) len bs) (hne : g ≠ c) : Bs (put4 w c i0 i1 i2 i3 x) (some ⟨g, 0, none⟩) len bs := by
  obtain ⟨h1, h2, h3, h4⟩ := h
  refine ⟨h1, h2, h3, ?_⟩
  rcases h4 with h4 | ⟨b', off, ha, hlt, hc⟩
  · exact .inl h4
  · cases ha
    refine .inr ⟨g, 0, rfl, by rw [put4_size]; exact hlt, fun i hi => ?_⟩
    unfold put4
    rw [World.cell?_of_block (Below.heap_setCell _ _ _ _ (by exact hne)), World.cell?_of_block (Below.heap_setCell _ _ _ _ (by exact hne)), World.cell?_of_block (Below.heap_setCell _ _ _ _ (by exact hne)), World.cell?_of_block (Below.heap_setCell _ _ _ _ (by exact hne))]
    exact hc i hi
theorem OwnT.put {w : World} {g len : Nat} {bs : List Int} {c i0 i1 i2 i3 : Nat} {x : Tm} (h : OwnT w g len bs) (hne : g ≠ c) : OwnT (put4 w c i0 i1 i2 i3 x) g len bs := by
  obtain ⟨h1, h2, h3, h4⟩ := h
  have e : ∀ i, (put4 w c i0 i1 i2 i3 x).cell? ⟨g, i, none⟩ = w.cell? ⟨g, i, none⟩ := fun i => by
    unfold put4
    rw [World.cell?_of_block (Below.heap_setCell _ _ _ _ (by exact hne)), World.cell?_of_block (Below.heap_setCell _ _ _ _ (by exact hne)), World.cell?_of_block (Below.heap_setCell _ _ _ _ (by exact hne)), World.cell?_of_block (Below.heap_setCell _ _ _ _ (by exact hne))]
  exact ⟨h1.put hne, by rw [put4_size]; exact h2, fun i hi => by rw [e i]; exact h3 i hi, fun i hi => by simp [put4, h4 i hi]⟩
end Go.Proofs.YtganfiajhokkmaaDoor
