/- The contracts of the functions on numbers without texts. -/
import Derived.Test.YtmpiadlmkeimdaaDoorRows
import Derived.WalkKit
import Derived.WalkSpells
import Derived.WalkLawsBesides
import Derived.ProofKit
import Derived.OpenShut
import Derived.Deep.Light
namespace Go.Proofs.YtmpiadlmkeimdaaDoor
open Go.RowKit

theorem bl_alloc {w w' : World} (h : Below w.heap.size w w') (o : Obj) : Below w.heap.size w (w'.alloc o) := h.alloc h.size o
theorem bl_trans {w w' w'' : World} (h : Below w.heap.size w w') (k : Below w'.heap.size w' w'') : Below w.heap.size w w'' := h.trans (k.mono h.size)
theorem bl_set {w w' : World} (h : Below w.heap.size w w') {p : Addr} (hp : w.heap.size ≤ p.block) (u : Value) : Below w.heap.size w (w'.setCell p u) := h.setCell hp u

def norm : Nat → Int → Int × Int
  | 0, n => (n, 0)
  | s + 1, n => if n.tmod 10 = 0 then norm s (n.tdiv 10) else (n, (s : Int) + 1)

theorem norm_step (k : Nat) (m : Int) (h : 0 < k) (hm : (m.tmod 10 == 0) = true) : norm (k - 1) (m.tdiv 10) = norm k m := by
  obtain ⟨j, rfl⟩ : ∃ j, k = j + 1 := ⟨k - 1, by omega⟩
  have : m.tmod 10 = 0 := by simpa using hm
  simp [norm, this]
theorem norm_stop (k : Nat) (m : Int) (h : 0 < k) (hm : (m.tmod 10 == 0) = false) : norm k m = (m, (k : Int)) := by
  obtain ⟨j, rfl⟩ : ∃ j, k = j + 1 := ⟨k - 1, by omega⟩
  have : ¬ m.tmod 10 = 0 := by simpa using hm
  simp [norm, this]
theorem norm_zero (k : Nat) (m : Int) (h : ¬ 0 < k) : norm k m = (m, (k : Int)) := by
  obtain rfl : k = 0 := by omega
  simp [norm]

theorem tdiv10_lo (m : Int) (h : -9223372036854775808 ≤ m) : -9223372036854775808 ≤ m.tdiv 10 := by
  rcases Int.le_total 0 m with p | p
  · have := Int.tdiv_nonneg p (by decide : (0:Int) ≤ 10); omega
  · obtain ⟨q, rfl⟩ : ∃ q, m = -q := ⟨-m, by omega⟩
    rw [Int.neg_tdiv, Int.tdiv_eq_ediv_of_nonneg (by omega)]; omega
theorem tdiv10_hi (m : Int) (h : m ≤ 9223372036854775807) : m.tdiv 10 ≤ 9223372036854775807 := by
  rcases Int.le_total 0 m with p | p
  · rw [Int.tdiv_eq_ediv_of_nonneg p]; omega
  · obtain ⟨q, rfl⟩ : ∃ q, m = -q := ⟨-m, by omega⟩
    rw [Int.neg_tdiv, Int.tdiv_eq_ediv_of_nonneg (by omega)]; omega
theorem norm_bounds (s : Nat) (n : Int) (h1 : -9223372036854775808 ≤ n) (h2 : n ≤ 9223372036854775807) :
    -9223372036854775808 ≤ (norm s n).1 ∧ (norm s n).1 ≤ 9223372036854775807 ∧ 0 ≤ (norm s n).2 ∧ (norm s n).2 ≤ s := by
  induction s generalizing n with
  | zero => simp [norm]; omega
  | succ s ih =>
    unfold norm
    split
    · have := ih (n.tdiv 10) (tdiv10_lo n h1) (tdiv10_hi n h2); omega
    · simp; omega

/-- A number that may be. -/
def numOk (n s : Int) : Bool := decide (0 ≤ s) && decide (s ≤ 6) && decide (-1000000000000000 ≤ n) && decide (n ≤ 1000000000000000) && (s == 0 || n.tmod 10 != 0)

theorem specTermOk_num (n s : Int) (w : World) (_h1 : -9223372036854775808 ≤ n) (_h2 : n ≤ 9223372036854775807) (_h3 : -9223372036854775808 ≤ s) (_h4 : s ≤ 9223372036854775807) :
    Calls Tryd.prog 21 #[.agg #[.int .i64 3, .slice none 0 0, .int .i64 n, .int .i64 s]] w fun e w' =>
      e = .returned (.bool (numOk n s)) ∧ ∃ o1, w' = w.alloc o1 := by
  go_enter Tryd.func21, Tryd.ntmps21
  go_wp2
  all_goals go_ret
  all_goals refine ⟨?_, _, rfl⟩
  all_goals (simp [numOk]; try omega)

theorem within_any (n a b : Int) (w : World) :
    Calls Tryd.prog 40 #[.int .i64 n, .int .i64 a, .int .i64 b] w fun e w' => e = .returned (.bool (decide (a ≤ n) && decide (n ≤ b))) ∧ w' = w := by
  go_enter Tryd.func40, Tryd.ntmps40
  go_wp2
  all_goals go_ret
  all_goals (refine ⟨?_, rfl⟩; simp [*]; try omega)

theorem decOk_any (n s : Int) (w : World) (_h1 : -9223372036854775808 ≤ n) (_h2 : n ≤ 9223372036854775807) (_h3 : -9223372036854775808 ≤ s) (_h4 : s ≤ 9223372036854775807) :
    Calls Tryd.prog 42 #[.agg #[.int .i64 n, .int .i64 s]] w fun e w' =>
      e = .returned (.bool (numOk n s)) ∧ ∃ o1, w' = w.alloc o1 := by
  go_enter Tryd.func42, Tryd.ntmps42
  go_wp2
  all_goals go_ret
  all_goals refine ⟨?_, _, rfl⟩
  all_goals (go_light; simp_all [numOk]; try omega)

/-- What a number's fields become: the number, or nothing where it is none. -/
def tK (p : Int × Int) : Int := if numOk p.1 p.2 then 3 else 0
def tN (p : Int × Int) : Int := if numOk p.1 p.2 then p.1 else 0
def tS (p : Int × Int) : Int := if numOk p.1 p.2 then p.2 else 0

end Go.Proofs.YtmpiadlmkeimdaaDoor
