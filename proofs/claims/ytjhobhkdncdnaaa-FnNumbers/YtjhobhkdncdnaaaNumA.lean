/- The contracts of the functions on numbers without texts. -/
import Derived.Test.YtjhobhkdncdnaaaRows
import Derived.WalkKit
import Derived.WalkSpells
import Derived.WalkLawsBesides
import Derived.ProofKit
import Derived.OpenShut
import Derived.Deep.Light
namespace Go.Proofs.Ytjhobhkdncdnaaa
open Go.RowKit

theorem bl_alloc {w w' : World} (h : Below w.heap.size w w') (o : Obj) : Below w.heap.size w (w'.alloc o) := h.alloc h.size o
theorem bl_trans {w w' w'' : World} (h : Below w.heap.size w w') (k : Below w'.heap.size w' w'') : Below w.heap.size w w'' := h.trans (k.mono h.size)
theorem bl_set {w w' : World} (h : Below w.heap.size w w') {p : Addr} (hp : w.heap.size ≤ p.block) (u : Value) : Below w.heap.size w (w'.setCell p u) := h.setCell hp u

def norm : Nat → Int → Int × Int
  | 0, n => (n, 0)
  | s + 1, n => if n.tmod 10 = 0 then norm s (n.tdiv 10) else (n, (s : Int) + 1)

theorem norm_step (k : Nat) (m : Int) (h : 0 < k) (hm : (m.tmod 10 == 0) = true) : norm (k - 1) (m.tdiv 10) = norm k m := by
  obtain ⟨j, rfl⟩ : ∃ j, k = j + 1 := ⟨k - 1, by omega⟩
  have : m.tmod 10 = 0 := by simpa using hm
  simp [norm, this]
theorem norm_stop (k : Nat) (m : Int) (h : 0 < k) (hm : (m.tmod 10 == 0) = false) : norm k m = (m, (k : Int)) := by
  obtain ⟨j, rfl⟩ : ∃ j, k = j + 1 := ⟨k - 1, by omega⟩
  have : ¬ m.tmod 10 = 0 := by simpa using hm
  simp [norm, this]
theorem norm_zero (k : Nat) (m : Int) (h : ¬ 0 < k) : norm k m = (m, (k : Int)) := by
  obtain rfl : k = 0 := by omega
  simp [norm]

theorem tdiv10_lo (m : Int) (h : -9223372036854775808 ≤ m) : -9223372036854775808 ≤ m.tdiv 10 := by
  rcases Int.le_total 0 m with p | p
  · have := Int.tdiv_nonneg p (by decide : (0:Int) ≤ 10); omega
  · obtain ⟨q, rfl⟩ : ∃ q, m = -q := ⟨-m, by omega⟩
    rw [Int.neg_tdiv, Int.tdiv_eq_ediv_of_nonneg (by omega)]; omega
theorem tdiv10_hi (m : Int) (h : m ≤ 9223372036854775807) : m.tdiv 10 ≤ 9223372036854775807 := by
  rcases Int.le_total 0 m with p | p
  · rw [Int.tdiv_eq_ediv_of_nonneg p]; omega
  · obtain ⟨q, rfl⟩ : ∃ q, m = -q := ⟨-m, by omega⟩
    rw [Int.neg_tdiv, Int.tdiv_eq_ediv_of_nonneg (by omega)]; omega
theorem norm_bounds (s : Nat) (n : Int) (h1 : -9223372036854775808 ≤ n) (h2 : n ≤ 9223372036854775807) :
    -9223372036854775808 ≤ (norm s n).1 ∧ (norm s n).1 ≤ 9223372036854775807 ∧ 0 ≤ (norm s n).2 ∧ (norm s n).2 ≤ s := by
  induction s generalizing n with
  | zero => simp [norm]; omega
  | succ s ih =>
    unfold norm
    split
    · have := ih (n.tdiv 10) (tdiv10_lo n h1) (tdiv10_hi n h2); omega
    · simp; omega

theorem l1norm_any (n : Int) (s : Nat) (w : World) (h1 : -9223372036854775808 ≤ n) (h2 : n ≤ 9223372036854775807) (_hs : s ≤ 12) :
    Calls Try.prog 42 #[.int .i64 n, .int .i64 s] w fun e w' =>
      e = .returned (.agg #[.int .i64 3, .slice none 0 0, .int .i64 (norm s n).1, .int .i64 (norm s n).2]) ∧ ∃ o1, w' = w.alloc o1 := by
  go_enter Try.func42, Try.ntmps42
  go_wp2
  go_loop [0, 1] (fun a b => ∃ (k : Nat) (m : Int), k ≤ s ∧ -9223372036854775808 ≤ m ∧ m ≤ 9223372036854775807 ∧ norm k m = norm s n ∧ a = .int .i64 m ∧ b = .int .i64 k)
    (fun _ b => (intOf b).toNat)
  case atStart => exact ⟨s, n, by omega, h1, h2, rfl, rfl, rfl⟩
  case round =>
    obtain ⟨k, m, hk, hm1, hm2, hn, rfl, rfl⟩ := hrel
    have HN : Hid (norm k m = norm s n) := hn
    clear hn
    go_wp2
    · go_round
      case rel =>
        have hp : 0 < k := by assumption
        exact ⟨k - 1, m.tdiv 10, by omega, tdiv10_lo m hm1, tdiv10_hi m hm2, (norm_step k m hp (by assumption)).trans HN.out, rfl, by go_num⟩
      case measure => simp [intOf]; omega
    · have hp : 0 < k := by assumption
      have e := HN.out.symm.trans (norm_stop k m hp (by assumption))
      rw [e]
      simp [bodyPost, results, Try.results42, go_sem]
      exact ⟨_, rfl⟩
    · have hp : ¬ 0 < k := by assumption
      have e := HN.out.symm.trans (norm_zero k m hp)
      rw [e]
      simp [bodyPost, results, Try.results42, go_sem]
      exact ⟨_, rfl⟩

/-- A number that may be. -/
def numOk (n s : Int) : Bool := decide (0 ≤ s) && decide (s ≤ 6) && decide (-1000000000000000 ≤ n) && decide (n ≤ 1000000000000000) && (s == 0 || n.tmod 10 != 0)

theorem specTermOk_num (n s : Int) (w : World) (_h1 : -9223372036854775808 ≤ n) (_h2 : n ≤ 9223372036854775807) (_h3 : -9223372036854775808 ≤ s) (_h4 : s ≤ 9223372036854775807) :
    Calls Try.prog 8 #[.agg #[.int .i64 3, .slice none 0 0, .int .i64 n, .int .i64 s]] w fun e w' =>
      e = .returned (.bool (numOk n s)) ∧ ∃ o1, w' = w.alloc o1 := by
  go_enter Try.func8, Try.ntmps8
  go_wp2
  all_goals go_ret
  all_goals refine ⟨?_, _, rfl⟩
  all_goals (simp [numOk]; try omega)

theorem within_any (n a b : Int) (w : World) :
    Calls Try.prog 30 #[.int .i64 n, .int .i64 a, .int .i64 b] w fun e w' => e = .returned (.bool (decide (a ≤ n) && decide (n ≤ b))) ∧ w' = w := by
  go_enter Try.func30, Try.ntmps30
  go_wp2
  all_goals go_ret
  all_goals (refine ⟨?_, rfl⟩; simp [*]; try omega)

theorem decOk_any (n s : Int) (w : World) (_h1 : -9223372036854775808 ≤ n) (_h2 : n ≤ 9223372036854775807) (_h3 : -9223372036854775808 ≤ s) (_h4 : s ≤ 9223372036854775807) :
    Calls Try.prog 32 #[.agg #[.int .i64 n, .int .i64 s]] w fun e w' =>
      e = .returned (.bool (numOk n s)) ∧ ∃ o1, w' = w.alloc o1 := by
  go_enter Try.func32, Try.ntmps32
  go_wp2
  all_goals go_ret
  all_goals refine ⟨?_, _, rfl⟩
  all_goals (go_light; simp_all [numOk]; try omega)

theorem trimmed_any (n : Int) (s : Nat) (w : World) (h1 : -9223372036854775808 ≤ n) (h2 : n ≤ 9223372036854775807) (_hs : s ≤ 12) :
    Calls Try.prog 41 #[.agg #[.int .i64 n, .int .i64 s]] w fun e w' =>
      e = .returned (.agg #[.int .i64 (norm s n).1, .int .i64 (norm s n).2]) ∧ ∃ o1 o2, w' = (w.alloc o1).alloc o2 := by
  go_enter Try.func41, Try.ntmps41
  go_wp2
  go_loopw [] (fun wr => ∃ (k : Nat) (m : Int), k ≤ s ∧ -9223372036854775808 ≤ m ∧ m ≤ 9223372036854775807 ∧ norm k m = norm s n ∧ wr = (w.alloc (.cells #[.int .i64 m, .int .i64 k] 44)).alloc (.cells #[.int .i64 0, .int .i64 0] 44))
    (fun wr => ((wr.cell? ⟨w.heap.size, 1, none⟩).elim 0 intOf).toNat)
  case atStart => exact ⟨s, n, by omega, h1, h2, rfl, rfl⟩
  case round =>
    obtain ⟨k, m, hk, hm1, hm2, hn, rfl⟩ := hrel
    have HN : Hid (norm k m = norm s n) := hn
    clear hn
    go_wp2
    · go_roundw
      case rel =>
        have hp : 0 < k := by assumption
        refine ⟨k - 1, m.tdiv 10, by omega, tdiv10_lo m hm1, tdiv10_hi m hm2, (norm_step k m hp (by assumption)).trans HN.out, ?_⟩
        have ek : ((k - 1 : Nat) : Int) = (k : Int) - 1 := by omega
        rw [ek]
      case measure =>
        have hp : 0 < k := by assumption
        simp [go_sem, intOf]; omega
    · have hp : 0 < k := by assumption
      have e := HN.out.symm.trans (norm_stop k m hp (by assumption))
      rw [e]
      simp [bodyPost, results, Try.results41, go_sem]
      exact ⟨_, _, rfl⟩
    · have hp : ¬ 0 < k := by assumption
      have e := HN.out.symm.trans (norm_zero k m hp)
      rw [e]
      simp [bodyPost, results, Try.results41, go_sem]
      exact ⟨_, _, rfl⟩

/-- What a number's fields become: the number, or nothing where it is none. -/
def tK (p : Int × Int) : Int := if numOk p.1 p.2 then 3 else 0
def tN (p : Int × Int) : Int := if numOk p.1 p.2 then p.1 else 0
def tS (p : Int × Int) : Int := if numOk p.1 p.2 then p.2 else 0

theorem term_any (n : Int) (s : Nat) (w : World) (h1 : -9223372036854775808 ≤ n) (h2 : n ≤ 9223372036854775807) (hs : s ≤ 12) :
    Calls Try.prog 24 #[.agg #[.int .i64 n, .int .i64 s]] w fun e w' =>
      e = .returned (.tuple #[.agg #[.int .i64 (tK (norm s n)), .slice none 0 0, .int .i64 (tN (norm s n)), .int .i64 (tS (norm s n))], .bool (numOk (norm s n).1 (norm s n).2)]) ∧
        ∃ o1 o2 o3 o4 o5, w' = ((((w.alloc o1).alloc o2).alloc o3).alloc o4).alloc o5 := by
  obtain ⟨b1, b2, b3, b4⟩ := norm_bounds s n h1 h2
  by_cases ok : numOk (norm s n).1 (norm s n).2 = true
  · go_enter Try.func24, Try.ntmps24
    go_wp2_with (first | (go_at_call 41; refine (trimmed_any n s _ h1 h2 hs).mono ?_; rintro e w1 ⟨rfl, o1, o2, rfl⟩) | (go_at_call 32; refine (decOk_any _ _ _ b1 b2 (by omega) (by omega)).mono ?_; rintro e w2 ⟨rfl, o3, rfl⟩))
    simp [bodyPost, results, Try.results24, go_sem, tK, tN, tS, ok]
    exact ⟨_, _, _, _, _, rfl⟩
  · go_enter Try.func24, Try.ntmps24
    go_wp2_with (first | (go_at_call 41; refine (trimmed_any n s _ h1 h2 hs).mono ?_; rintro e w1 ⟨rfl, o1, o2, rfl⟩) | (go_at_call 32; refine (decOk_any _ _ _ b1 b2 (by omega) (by omega)).mono ?_; rintro e w2 ⟨rfl, o3, rfl⟩))
    simp [bodyPost, results, Try.results24, go_sem, tK, tN, tS, ok]
    exact ⟨_, _, _, _, _, rfl⟩

end Go.Proofs.Ytjhobhkdncdnaaa
