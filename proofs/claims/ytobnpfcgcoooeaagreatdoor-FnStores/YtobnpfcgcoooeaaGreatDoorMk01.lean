/- Texts put together: NumA NumB TxtA TokA TokB -/
import Derived.Test.YtobnpfcgcoooeaaGreatDoorRows
import Derived.WalkKit
import Derived.WalkSpells
import Derived.WalkLawsBesides
import Derived.ProofKit
import Derived.OpenShut
import Derived.Deep.Light
import Derived.Deep.OwnRows
import Derived.Deep.Draws
import Derived.BigQuiet
import Derived.Deep.QuietTactic
/- NumA -/
namespace Go.Proofs.YtobnpfcgcoooeaaGreatDoor
open Go.RowKit

theorem bl_alloc {w w' : World} (h : Below w.heap.size w w') (o : Obj) : Below w.heap.size w (w'.alloc o) := h.alloc h.size o
theorem bl_trans {w w' w'' : World} (h : Below w.heap.size w w') (k : Below w'.heap.size w' w'') : Below w.heap.size w w'' := h.trans (k.mono h.size)
theorem bl_set {w w' : World} (h : Below w.heap.size w w') {p : Addr} (hp : w.heap.size ≤ p.block) (u : Value) : Below w.heap.size w (w'.setCell p u) := h.setCell hp u

def norm : Nat → Int → Int × Int
  | 0, n => (n, 0)
  | s + 1, n => if n.tmod 10 = 0 then norm s (n.tdiv 10) else (n, (s : Int) + 1)

theorem norm_step (k : Nat) (m : Int) (h : 0 < k) (hm : (m.tmod 10 == 0) = true) : norm (k - 1) (m.tdiv 10) = norm k m := by
  obtain ⟨j, rfl⟩ : ∃ j, k = j + 1 := ⟨k - 1, by omega⟩
  have : m.tmod 10 = 0 := by simpa using hm
  simp [norm, this]
theorem norm_stop (k : Nat) (m : Int) (h : 0 < k) (hm : (m.tmod 10 == 0) = false) : norm k m = (m, (k : Int)) := by
  obtain ⟨j, rfl⟩ : ∃ j, k = j + 1 := ⟨k - 1, by omega⟩
  have : ¬ m.tmod 10 = 0 := by simpa using hm
  simp [norm, this]
theorem norm_zero (k : Nat) (m : Int) (h : ¬ 0 < k) : norm k m = (m, (k : Int)) := by
  obtain rfl : k = 0 := by omega
  simp [norm]

theorem tdiv10_lo (m : Int) (h : -9223372036854775808 ≤ m) : -9223372036854775808 ≤ m.tdiv 10 := by
  rcases Int.le_total 0 m with p | p
  · have := Int.tdiv_nonneg p (by decide : (0:Int) ≤ 10); omega
  · obtain ⟨q, rfl⟩ : ∃ q, m = -q := ⟨-m, by omega⟩
    rw [Int.neg_tdiv, Int.tdiv_eq_ediv_of_nonneg (by omega)]; omega
theorem tdiv10_hi (m : Int) (h : m ≤ 9223372036854775807) : m.tdiv 10 ≤ 9223372036854775807 := by
  rcases Int.le_total 0 m with p | p
  · rw [Int.tdiv_eq_ediv_of_nonneg p]; omega
  · obtain ⟨q, rfl⟩ : ∃ q, m = -q := ⟨-m, by omega⟩
    rw [Int.neg_tdiv, Int.tdiv_eq_ediv_of_nonneg (by omega)]; omega
theorem norm_bounds (s : Nat) (n : Int) (h1 : -9223372036854775808 ≤ n) (h2 : n ≤ 9223372036854775807) :
    -9223372036854775808 ≤ (norm s n).1 ∧ (norm s n).1 ≤ 9223372036854775807 ∧ 0 ≤ (norm s n).2 ∧ (norm s n).2 ≤ s := by
  induction s generalizing n with
  | zero => simp [norm]; omega
  | succ s ih =>
    unfold norm
    split
    · have := ih (n.tdiv 10) (tdiv10_lo n h1) (tdiv10_hi n h2); omega
    · simp; omega

theorem l1norm_any (n : Int) (s : Nat) (w : World) (h1 : -9223372036854775808 ≤ n) (h2 : n ≤ 9223372036854775807) (_hs : s ≤ 12) :
    Calls Tryz.prog 88 #[.int .i64 n, .int .i64 s] w fun e w' =>
      e = .returned (.agg #[.int .i64 3, .slice none 0 0, .int .i64 (norm s n).1, .int .i64 (norm s n).2]) ∧ ∃ o1, w' = w.alloc o1 := by
  go_enter Tryz.func88, Tryz.ntmps88
  go_wp2
  go_loop [0, 1] (fun a b => ∃ (k : Nat) (m : Int), k ≤ s ∧ -9223372036854775808 ≤ m ∧ m ≤ 9223372036854775807 ∧ norm k m = norm s n ∧ a = .int .i64 m ∧ b = .int .i64 k)
    (fun _ b => (intOf b).toNat)
  case atStart => exact ⟨s, n, by omega, h1, h2, rfl, rfl, rfl⟩
  case round =>
    obtain ⟨k, m, hk, hm1, hm2, hn, rfl, rfl⟩ := hrel
    have HN : Hid (norm k m = norm s n) := hn
    clear hn
    go_wp2
    · go_round
      case rel =>
        have hp : 0 < k := by assumption
        exact ⟨k - 1, m.tdiv 10, by omega, tdiv10_lo m hm1, tdiv10_hi m hm2, (norm_step k m hp (by assumption)).trans HN.out, rfl, by go_num⟩
      case measure => simp [intOf]; omega
    · have hp : 0 < k := by assumption
      have e := HN.out.symm.trans (norm_stop k m hp (by assumption))
      rw [e]
      simp [bodyPost, results, Tryz.results88, go_sem]
      exact ⟨_, rfl⟩
    · have hp : ¬ 0 < k := by assumption
      have e := HN.out.symm.trans (norm_zero k m hp)
      rw [e]
      simp [bodyPost, results, Tryz.results88, go_sem]
      exact ⟨_, rfl⟩

/-- A number that may be. -/
def numOk (n s : Int) : Bool := decide (0 ≤ s) && decide (s ≤ 6) && decide (-1000000000000000 ≤ n) && decide (n ≤ 1000000000000000) && (s == 0 || n.tmod 10 != 0)

theorem specTermOk_num (n s : Int) (w : World) (_h1 : -9223372036854775808 ≤ n) (_h2 : n ≤ 9223372036854775807) (_h3 : -9223372036854775808 ≤ s) (_h4 : s ≤ 9223372036854775807) :
    Calls Tryz.prog 26 #[.agg #[.int .i64 3, .slice none 0 0, .int .i64 n, .int .i64 s]] w fun e w' =>
      e = .returned (.bool (numOk n s)) ∧ ∃ o1, w' = w.alloc o1 := by
  go_enter Tryz.func26, Tryz.ntmps26
  go_wp2
  all_goals go_ret
  all_goals refine ⟨?_, _, rfl⟩
  all_goals (simp [numOk]; try omega)

theorem within_any (n a b : Int) (w : World) :
    Calls Tryz.prog 29 #[.int .i64 n, .int .i64 a, .int .i64 b] w fun e w' => e = .returned (.bool (decide (a ≤ n) && decide (n ≤ b))) ∧ w' = w := by
  go_enter Tryz.func29, Tryz.ntmps29
  go_wp2
  all_goals go_ret
  all_goals (refine ⟨?_, rfl⟩; simp [*]; try omega)

theorem decOk_any (n s : Int) (w : World) (_h1 : -9223372036854775808 ≤ n) (_h2 : n ≤ 9223372036854775807) (_h3 : -9223372036854775808 ≤ s) (_h4 : s ≤ 9223372036854775807) :
    Calls Tryz.prog 58 #[.agg #[.int .i64 n, .int .i64 s]] w fun e w' =>
      e = .returned (.bool (numOk n s)) ∧ ∃ o1, w' = w.alloc o1 := by
  go_enter Tryz.func58, Tryz.ntmps58
  go_wp2
  all_goals go_ret
  all_goals refine ⟨?_, _, rfl⟩
  all_goals (go_light; simp_all [numOk]; try omega)

/-- What a number's fields become: the number, or nothing where it is none. -/
def tK (p : Int × Int) : Int := if numOk p.1 p.2 then 3 else 0
def tN (p : Int × Int) : Int := if numOk p.1 p.2 then p.1 else 0
def tS (p : Int × Int) : Int := if numOk p.1 p.2 then p.2 else 0

end Go.Proofs.YtobnpfcgcoooeaaGreatDoor

/- NumB -/
namespace Go.Proofs.YtobnpfcgcoooeaaGreatDoor
open Go.RowKit

/-- The number's parts at whatever scale: (0, 7) is none. -/
def numP (n s : Int) : Int × Int := if 0 ≤ s ∧ s ≤ 6 then norm s.toNat n else (0, 7)

theorem specNum_any (n s : Int) (w : World) (h1 : -9223372036854775808 ≤ n) (h2 : n ≤ 9223372036854775807) :
    Calls Tryz.prog 66 #[.int .i64 n, .int .i64 s] w fun e w' =>
      e = .returned (.tuple #[.agg #[.int .i64 (tK (numP n s)), .slice none 0 0, .int .i64 (tN (numP n s)), .int .i64 (tS (numP n s))], .bool (numOk (numP n s).1 (numP n s).2)]) ∧ Below w.heap.size w w' := by
  by_cases hs : 0 ≤ s ∧ s ≤ 6
  · obtain ⟨k, rfl⟩ : ∃ k : Nat, s = k := ⟨s.toNat, by omega⟩
    have hp : numP n k = norm k n := by simp [numP, hs]
    rw [hp]
    obtain ⟨b1, b2, b3, b4⟩ := norm_bounds k n h1 h2
    by_cases ok : numOk (norm k n).1 (norm k n).2 = true
    · go_enter Tryz.func66, Tryz.ntmps66
      go_wp2_with (first | (go_at_call 88; refine (l1norm_any n k _ h1 h2 (by omega)).mono ?_; rintro e w1 ⟨rfl, o1, rfl⟩) | (go_at_call 26; refine (specTermOk_num _ _ _ b1 b2 (by omega) (by omega)).mono ?_; rintro e w2 ⟨rfl, o2, rfl⟩))
      simp [bodyPost, results, Tryz.results66, go_sem, tK, tN, tS, ok]
      repeat (first | with_reducible exact Below.refl _ _ | with_reducible apply bl_alloc | with_reducible apply Below.drew)
    · go_enter Tryz.func66, Tryz.ntmps66
      go_wp2_with (first | (go_at_call 88; refine (l1norm_any n k _ h1 h2 (by omega)).mono ?_; rintro e w1 ⟨rfl, o1, rfl⟩) | (go_at_call 26; refine (specTermOk_num _ _ _ b1 b2 (by omega) (by omega)).mono ?_; rintro e w2 ⟨rfl, o2, rfl⟩))
      simp [bodyPost, results, Tryz.results66, go_sem, tK, tN, tS, ok]
      repeat (first | with_reducible exact Below.refl _ _ | with_reducible apply bl_alloc | with_reducible apply Below.drew)
  · have hp : numP n s = (0, 7) := by simp [numP, hs]
    rw [hp]
    by_cases h0 : 0 ≤ s
    · go_enter Tryz.func66, Tryz.ntmps66
      go_wp2
      simp [bodyPost, results, Tryz.results66, go_sem, tK, tN, tS, numOk]
      repeat (first | with_reducible exact Below.refl _ _ | with_reducible apply bl_alloc | with_reducible apply Below.drew)
    · go_enter Tryz.func66, Tryz.ntmps66
      go_wp2
      simp [bodyPost, results, Tryz.results66, go_sem, tK, tN, tS, numOk]
      repeat (first | with_reducible exact Below.refl _ _ | with_reducible apply bl_alloc | with_reducible apply Below.drew)

/-! The loops over an empty text: no round. -/
end Go.Proofs.YtobnpfcgcoooeaaGreatDoor

/- TxtA -/
namespace Go.Proofs.YtobnpfcgcoooeaaGreatDoor
open Go.RowKit Go.Deep

/-- The slice value's address 'a' leads, for 'len' bytes, to the numbers bs. -/
def Bs (w : World) (a : Option Addr) (len : Nat) (bs : List Int) : Prop :=
  bs.length = len ∧ len ≤ 1048576 ∧ (∀ i : Nat, 0 ≤ bs[i]?.getD 0 ∧ bs[i]?.getD 0 ≤ 255) ∧
    (len = 0 ∨ ∃ b off, a = some ⟨b, off, none⟩ ∧ b < w.heap.size ∧ ∀ i, i < len → w.cell? ⟨b, off + i, none⟩ = some (.int .u8 (bs[i]?.getD 0)))

theorem Bs.below {w w' : World} {a : Option Addr} {len : Nat} {bs : List Int} (h : Bs w a len bs) (hb : Below w.heap.size w w') : Bs w' a len bs := by
  obtain ⟨h1, h2, h3, h4⟩ := h
  refine ⟨h1, h2, h3, ?_⟩
  rcases h4 with h4 | ⟨b, off, ha, hlt, hc⟩
  · exact .inl h4
  · exact .inr ⟨b, off, ha, Nat.lt_of_lt_of_le hlt hb.size, fun i hi => (hb.cell (p := ⟨b, off + i, none⟩) hlt).trans (hc i hi)⟩

/-- The bytes as cells. -/
def cellsOf (bs : List Int) : Array Value := (bs.map (Value.int .u8)).toArray

theorem Bs.made (w : World) (bs : List Int) (len : Nat) (hl : bs.length = len) (h2 : len ≤ 1048576) (h3 : ∀ i : Nat, 0 ≤ bs[i]?.getD 0 ∧ bs[i]?.getD 0 ≤ 255) :
    Bs (w.alloc (.cells (cellsOf bs) 5)) (some ⟨w.heap.size, 0, none⟩) len bs := by
  refine ⟨hl, h2, h3, .inr ⟨w.heap.size, 0, rfl, by simp, fun i hi => ?_⟩⟩
  have hi' : i < bs.length := by omega
  simp [go_sem, cellsOf, hi']

theorem Tryz.info5 : (Tryz.prog.info? 5).map (fun i => (i.zero, i.size, i.bytes)) = some (some (.int .u8 0), 1, 1) := by kernel_rfl

end Go.Proofs.YtobnpfcgcoooeaaGreatDoor

/- TokA -/
namespace Go.Proofs.YtobnpfcgcoooeaaGreatDoor
open Go.RowKit Go.Deep

def letter (b : Int) : Bool := decide (97 ≤ b) && decide (b ≤ 122)
def digit (b : Int) : Bool := decide (48 ≤ b) && decide (b ≤ 57)
def plainB (b : Int) : Bool := decide (32 ≤ b) && decide (b ≤ 126)
def nameOk (bs : List Int) : Bool := decide (1 ≤ bs.length) && decide (bs.length ≤ 12) && letter (bs[0]?.getD 0) && bs.all (fun b => letter b || digit b)
def textOk (bs : List Int) : Bool := decide (bs.length ≤ 30) && bs.all plainB
/-- A term that may be. -/
def termOk (k : Int) (bs : List Int) (n s : Int) : Bool :=
  if k = 0 then nameOk bs && n == 0 && s == 0
  else if k = 1 then bs.length == 0 && decide (0 ≤ n) && decide (n ≤ 999999) && s == 0
  else if k = 2 then textOk bs && n == 0 && s == 0
  else if k = 3 then bs.length == 0 && numOk n s
  else false

theorem all_of (bs : List Int) (p : Int → Bool) (H : ∀ j : Nat, j < bs.length → p (bs[j]?.getD 0) = true) : bs.all p = true := by
  rw [List.all_eq_true]
  intro x hx
  obtain ⟨i, hi, rfl⟩ := List.getElem_of_mem hx
  have := H i hi
  simpa [hi] using this
theorem all_not (bs : List Int) (p : Int → Bool) (k : Nat) (h : k < bs.length) (H : p (bs[k]?.getD 0) = false) : bs.all p = false := by
  rw [List.all_eq_false]
  refine ⟨bs[k], List.getElem_mem h, ?_⟩
  simpa [h] using H

theorem small_any (b : Int) (w : World) : Calls Tryz.prog 49 #[.int .u8 b] w fun e w' => e = .returned (.bool (letter b || digit b)) ∧ w' = w := by
  go_enter Tryz.func49, Tryz.ntmps49
  go_wp2
  all_goals go_ret
  all_goals (refine ⟨congrArg (fun b => Ending.returned (Value.bool b)) ?_, rfl⟩; rw [Bool.eq_iff_iff]; simp [letter, digit]; try omega)
theorem letter_any (b : Int) (w : World) : Calls Tryz.prog 82 #[.int .u8 b] w fun e w' => e = .returned (.bool (letter b)) ∧ w' = w := by
  go_enter Tryz.func82, Tryz.ntmps82
  go_wp2
  all_goals go_ret
  all_goals (refine ⟨?_, rfl⟩; simp [letter]; try omega)
theorem digit_any (b : Int) (w : World) : Calls Tryz.prog 83 #[.int .u8 b] w fun e w' => e = .returned (.bool (digit b)) ∧ w' = w := by
  go_enter Tryz.func83, Tryz.ntmps83
  go_wp2
  all_goals go_ret
  all_goals (refine ⟨?_, rfl⟩; simp [digit]; try omega)

theorem isText_any (a : Option Addr) (len cap : Nat) (bs : List Int) (w : World) (hB : Bs w a len bs) :
    Calls Tryz.prog 56 #[.slice a len cap] w fun e w' => e = .returned (.bool (textOk bs)) ∧ w' = w := by
  obtain ⟨hl, h2, h3, h4⟩ := hB
  clear h3
  by_cases h30 : len ≤ 30
  · rcases h4 with h4 | ⟨b, off, rfl, hlt, hc⟩
    · subst h4
      have e : textOk bs = true := by simp [textOk, List.eq_nil_of_length_eq_zero hl]
      rw [e]
      clear hl
      go_enter Tryz.func56, Tryz.ntmps56
      go_wp2
      refine wp_loop_rounds 1 ?_
      rw [rounds_succ]
      go_wp2
      go_ret
      exact ⟨rfl, rfl⟩
    · have HL : Hid (bs.length = len) := hl
      clear hl
      go_enter Tryz.func56, Tryz.ntmps56
      go_wp2
      go_loop [10] (fun i => ∃ k : Nat, k ≤ len ∧ i = .int .i64 k ∧ ∀ j : Nat, j < k → plainB (bs[j]?.getD 0) = true)
        (fun i => len - (intOf i).toNat)
      case atStart => exact ⟨0, Nat.zero_le _, rfl, by intro j hj; omega⟩
      case round =>
        obtain ⟨k, hk, rfl, hH⟩ := hrel
        have HH : Hid (∀ j : Nat, j < k → plainB (bs[j]?.getD 0) = true) := hH
        have hcx : k < len → w.cell? ⟨b, off + k, none⟩ = some (.int .u8 (bs[k]?.getD 0)) := fun h => hc k h
        clear hc hH
        go_wp2
        · have hx : bs[k]?.getD 0 < 32 ∨ 126 < bs[k]?.getD 0 := by assumption
          go_ret
          refine ⟨?_, rfl⟩
          have e := all_not bs plainB k (by have := HL.out; omega) (by simp [plainB]; omega)
          simp [textOk, e]
        · have hx : 32 ≤ bs[k]?.getD 0 ∧ bs[k]?.getD 0 ≤ 126 := by assumption
          go_round
          case rel => exact ⟨k + 1, by omega, by go_num, fun j hj => by
            by_cases e : j = k
            · subst e; simp [plainB]; omega
            · exact HH.out j (by omega)⟩
          case measure => simp [intOf]; omega
        · have hx : bs[k]?.getD 0 < 32 := by assumption
          go_ret
          refine ⟨?_, rfl⟩
          have e := all_not bs plainB k (by have := HL.out; omega) (by simp [plainB]; omega)
          simp [textOk, e]
        · go_ret
          refine ⟨?_, rfl⟩
          have hl := HL.out
          have e := all_of bs plainB (fun j hj => HH.out j (by omega))
          simp [textOk, e]; omega
  · have e : textOk bs = false := by simp [textOk]; omega
    rw [e]
    clear h4
    go_enter Tryz.func56, Tryz.ntmps56
    go_wp2
    go_ret
    exact ⟨rfl, rfl⟩

theorem isName_any (a : Option Addr) (len cap : Nat) (bs : List Int) (w : World) (hB : Bs w a len bs) :
    Calls Tryz.prog 55 #[.slice a len cap] w fun e w' => e = .returned (.bool (nameOk bs)) ∧ w' = w := by
  obtain ⟨hl, h2, h3, h4⟩ := hB
  clear h3
  by_cases h0 : len = 0
  · subst h0
    have e : nameOk bs = false := by simp [nameOk, hl]
    rw [e]
    clear hl h4
    go_enter Tryz.func55, Tryz.ntmps55
    go_wp2
    go_ret
    exact ⟨rfl, rfl⟩
  obtain ⟨b, off, rfl, hlt, hc⟩ : ∃ b off, a = some ⟨b, off, none⟩ ∧ b < w.heap.size ∧ ∀ i, i < len → w.cell? ⟨b, off + i, none⟩ = some (.int .u8 (bs[i]?.getD 0)) := by
    rcases h4 with h4 | h4
    · exact absurd h4 h0
    · exact h4
  clear h4
  by_cases h12 : len ≤ 12
  · have hc0 : w.cell? ⟨b, off, none⟩ = some (.int .u8 (bs[0]?.getD 0)) := hc 0 (by omega)
    have hb1 : (1 : Int) ≤ (len : Int) := by omega
    have hb0 : (0 : Int) < (len : Int) := by omega
    have HL : Hid (bs.length = len) := hl
    clear hl
    by_cases hf : letter (bs[0]?.getD 0) = true
    · go_enter Tryz.func55, Tryz.ntmps55
      go_wp2_with (first | (go_at_call 82; refine (letter_any _ _).mono ?_; rintro e w1 ⟨rfl, rfl⟩) | go_in)
      go_loop [18] (fun i => ∃ k : Nat, k ≤ len ∧ i = .int .i64 k ∧ ∀ j : Nat, j < k → (letter (bs[j]?.getD 0) || digit (bs[j]?.getD 0)) = true)
        (fun i => len - (intOf i).toNat)
      case atStart => exact ⟨0, Nat.zero_le _, rfl, by intro j hj; omega⟩
      case round =>
        obtain ⟨k, hk, rfl, hH⟩ := hrel
        have HH : Hid (∀ j : Nat, j < k → (letter (bs[j]?.getD 0) || digit (bs[j]?.getD 0)) = true) := hH
        have HC := hc
        have HF : Hid (letter (bs[0]?.getD 0) = true) := hf
        clear hc hH hc0 hf
        by_cases hlt2 : k < len
        · have hcx := HC k hlt2
          clear HC
          generalize hg : bs[k]?.getD 0 = x at hcx
          have HG : Hid (bs[k]?.getD 0 = x) := hg
          clear hg
          have hkl : k < bs.length := by have := HL.out; omega
          by_cases h1 : letter x = true
          · go_wp2_with (first | (go_at_call 82; refine (letter_any _ _).mono ?_; rintro e w2 ⟨rfl, rfl⟩) | (go_at_call 83; refine (digit_any _ _).mono ?_; rintro e w3 ⟨rfl, rfl⟩))
            go_round
            case rel => exact ⟨k + 1, by omega, by go_num, fun j hj => by
              by_cases e : j = k
              · subst e; rw [HG.out, h1]; rfl
              · exact HH.out j (by omega)⟩
            case measure => simp [intOf]; omega
          · have h1' : letter x = false := by simpa using h1
            clear h1
            by_cases h2 : digit x = true
            · go_wp2_with (first | (go_at_call 82; refine (letter_any _ _).mono ?_; rintro e w2 ⟨rfl, rfl⟩) | (go_at_call 83; refine (digit_any _ _).mono ?_; rintro e w3 ⟨rfl, rfl⟩))
              go_round
              case rel => exact ⟨k + 1, by omega, by go_num, fun j hj => by
                by_cases e : j = k
                · subst e; rw [HG.out, h2]; simp
                · exact HH.out j (by omega)⟩
              case measure => simp [intOf]; omega
            · have h2' : digit x = false := by simpa using h2
              clear h2
              go_wp2_with (first | (go_at_call 82; refine (letter_any _ _).mono ?_; rintro e w2 ⟨rfl, rfl⟩) | (go_at_call 83; refine (digit_any _ _).mono ?_; rintro e w3 ⟨rfl, rfl⟩))
              go_ret
              refine ⟨?_, rfl⟩
              have e := all_not bs (fun b => letter b || digit b) k hkl (by show (letter _ || digit _) = false; rw [HG.out, h1', h2']; rfl)
              simp [nameOk, e]
        · clear HC
          go_wp2
          go_ret
          refine ⟨?_, rfl⟩
          have hl := HL.out
          have e := all_of bs (fun b => letter b || digit b) (fun j hj => HH.out j (by omega))
          have hf := HF.out
          simp only [nameOk, e, hf, hl]
          simp; omega
    · have hf' : letter (bs[0]?.getD 0) = false := by simpa using hf
      have e : nameOk bs = false := by simp [nameOk, hf']
      rw [e]
      clear hf
      go_enter Tryz.func55, Tryz.ntmps55
      go_wp2_with (first | (go_at_call 82; refine (letter_any _ _).mono ?_; rintro e w1 ⟨rfl, rfl⟩) | go_in)
      go_ret
      exact ⟨rfl, rfl⟩
  · have e : nameOk bs = false := by simp [nameOk, hl]; omega
    rw [e]
    have h12' : decide ((len : Int) ≤ 12) = false := by simp; omega
    clear hl hc
    go_enter Tryz.func55, Tryz.ntmps55
    go_wp2
    go_ret
    exact ⟨rfl, rfl⟩
end Go.Proofs.YtobnpfcgcoooeaaGreatDoor

/- TokB -/
namespace Go.Proofs.YtobnpfcgcoooeaaGreatDoor
open Go.RowKit Go.Deep

theorem specTermOk_blank (n s : Int) (a : Option Addr) (len cap : Nat) (bs : List Int) (w : World) (hB : Bs w a len bs) :
    Calls Tryz.prog 26 #[.agg #[.int .i64 1, .slice a len cap, .int .i64 n, .int .i64 s]] w fun e w' => e = .returned (.bool (termOk 1 bs n s)) ∧ ∃ o1, w' = w.alloc o1 := by
  obtain ⟨hl, h2, h3, h4⟩ := hB
  have HL : Hid (bs.length = len) := hl
  clear h3 h4 hl
  go_enter Tryz.func26, Tryz.ntmps26
  go_wp2
  all_goals go_ret
  all_goals (refine ⟨congrArg (fun b => Ending.returned (Value.bool b)) ?_, _, rfl⟩; have hl := HL.out; rw [Bool.eq_iff_iff]; go_light; simp [termOk, -List.length_eq_zero_iff]; try omega)

theorem specTermOk_number (n s : Int) (a : Option Addr) (len cap : Nat) (bs : List Int) (w : World) (hB : Bs w a len bs) (_h1 : -9223372036854775808 ≤ n) (_h2 : n ≤ 9223372036854775807) :
    Calls Tryz.prog 26 #[.agg #[.int .i64 3, .slice a len cap, .int .i64 n, .int .i64 s]] w fun e w' => e = .returned (.bool (termOk 3 bs n s)) ∧ ∃ o1, w' = w.alloc o1 := by
  obtain ⟨hl, h2, h3, h4⟩ := hB
  have HL : Hid (bs.length = len) := hl
  clear h3 h4 hl
  go_enter Tryz.func26, Tryz.ntmps26
  go_wp2
  all_goals go_ret
  all_goals (refine ⟨congrArg (fun b => Ending.returned (Value.bool b)) ?_, _, rfl⟩; have hl := HL.out; rw [Bool.eq_iff_iff]; go_light; simp [termOk, numOk, -List.length_eq_zero_iff]; try omega)

theorem specTermOk_other (k n s : Int) (a : Option Addr) (len cap : Nat) (bs : List Int) (w : World) (h0 : k ≠ 0) (h1 : k ≠ 1) (h2 : k ≠ 2) (h3 : k ≠ 3) :
    Calls Tryz.prog 26 #[.agg #[.int .i64 k, .slice a len cap, .int .i64 n, .int .i64 s]] w fun e w' => e = .returned (.bool (termOk k bs n s)) ∧ ∃ o1, w' = w.alloc o1 := by
  have e : termOk k bs n s = false := by simp [termOk, h0, h1, h2, h3]
  rw [e]
  have g0 : (k == 0) = false := by simp; omega
  have g1 : (k == 1) = false := by simp; omega
  have g2 : (k == 2) = false := by simp; omega
  have g3 : (k == 3) = false := by simp; omega
  clear h0 h1 h2 h3 e
  go_enter Tryz.func26, Tryz.ntmps26
  go_wp2
  go_ret
  exact ⟨rfl, _, rfl⟩

set_option maxRecDepth 10000 in
set_option maxHeartbeats 1000000 in
theorem specTermOk_text (n s : Int) (a : Option Addr) (len cap : Nat) (bs : List Int) (w : World) (hB : Bs w a len bs) :
    Calls Tryz.prog 26 #[.agg #[.int .i64 2, .slice a len cap, .int .i64 n, .int .i64 s]] w fun e w' => e = .returned (.bool (termOk 2 bs n s)) ∧ ∃ o1, w' = w.alloc o1 := by
  obtain ⟨hl, h2, h3, h4⟩ := hB
  have et : termOk 2 bs n s = (textOk bs && n == 0 && s == 0) := by simp [termOk]
  rw [et]
  clear h3 et
  by_cases h30 : len ≤ 30 ∧ n = 0 ∧ s = 0
  · obtain ⟨h30, rfl, rfl⟩ := h30
    have eb : (textOk bs && (0 : Int) == 0 && (0 : Int) == 0) = textOk bs := by simp
    rw [eb]
    clear eb
    rcases h4 with h4 | ⟨b, off, rfl, hlt, hc⟩
    · subst h4
      have e : textOk bs = true := by simp [textOk, List.eq_nil_of_length_eq_zero hl]
      rw [e]
      clear hl e
      go_enter Tryz.func26, Tryz.ntmps26
      go_wp2
      refine wp_loop_rounds 1 ?_
      rw [rounds_succ]
      go_wp2
      go_ret
      exact ⟨rfl, _, rfl⟩
    · have HL : Hid (bs.length = len) := hl
      clear hl
      go_enter Tryz.func26, Tryz.ntmps26
      go_wp2
      go_loop [4] (fun i => ∃ k : Nat, k ≤ len ∧ i = .int .i64 k ∧ ∀ j : Nat, j < k → plainB (bs[j]?.getD 0) = true)
        (fun i => len - (intOf i).toNat)
      case atStart => exact ⟨0, Nat.zero_le _, rfl, by intro j hj; omega⟩
      case round =>
        obtain ⟨k, hk, rfl, hH⟩ := hrel
        have HH : Hid (∀ j : Nat, j < k → plainB (bs[j]?.getD 0) = true) := hH
        have hcx : k < len → w.cell? ⟨b, off + k, none⟩ = some (.int .u8 (bs[k]?.getD 0)) := fun h => hc k h
        clear hc hH
        go_wp2
        · have hx : bs[k]?.getD 0 < 32 ∨ 126 < bs[k]?.getD 0 := by assumption
          go_ret
          refine ⟨?_, _, rfl⟩
          have e := all_not bs plainB k (by have := HL.out; omega) (by simp [plainB]; omega)
          simp [textOk, e]
        · have hx : 32 ≤ bs[k]?.getD 0 ∧ bs[k]?.getD 0 ≤ 126 := by assumption
          go_round
          case rel => exact ⟨k + 1, by omega, by go_num, fun j hj => by
            by_cases e : j = k
            · subst e; simp [plainB]; omega
            · exact HH.out j (by omega)⟩
          case measure => simp [intOf]; omega
        · have hx : bs[k]?.getD 0 < 32 := by assumption
          go_ret
          refine ⟨?_, _, rfl⟩
          have e := all_not bs plainB k (by have := HL.out; omega) (by simp [plainB]; omega)
          simp [textOk, e]
        · go_ret
          refine ⟨?_, _, rfl⟩
          have hl := HL.out
          have e := all_of bs plainB (fun j hj => HH.out j (by omega))
          simp [textOk, e]; omega
  · have e : (textOk bs && n == 0 && s == 0) = false := by
      rw [Bool.eq_false_iff]
      intro h
      simp [textOk] at h
      omega
    rw [e]
    clear e h4
    by_cases g30 : len ≤ 30
    · by_cases gn : n = 0
      · have gs : (s != 0) = true := by simp; omega
        subst gn
        clear h30
        go_enter Tryz.func26, Tryz.ntmps26
        go_wp2
        go_ret
        exact ⟨rfl, _, rfl⟩
      · have gn' : (n != 0) = true := by simp; omega
        clear h30 gn
        go_enter Tryz.func26, Tryz.ntmps26
        go_wp2
        go_ret
        exact ⟨rfl, _, rfl⟩
    · clear h30
      go_enter Tryz.func26, Tryz.ntmps26
      go_wp2
      go_ret
      exact ⟨rfl, _, rfl⟩
end Go.Proofs.YtobnpfcgcoooeaaGreatDoor
