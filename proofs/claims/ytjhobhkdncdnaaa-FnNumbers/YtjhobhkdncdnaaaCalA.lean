/- Products that may be too great, of the program and of the model: the contracts. -/
import Derived.Test.YtjhobhkdncdnaaaCmpB
namespace Go.Proofs.Ytjhobhkdncdnaaa
open Go.RowKit Go.Deep

/-- The size of a number. -/
def absI (n : Int) : Int := if n < 0 then -n else n
theorem absI_nonneg (n : Int) : 0 ≤ absI n := by unfold absI; split <;> omega
theorem absI_pos {n : Int} (h : n ≠ 0) : 1 ≤ absI n := by unfold absI; split <;> omega
theorem absI_neg {n : Int} (h : n < 0) : absI n = -n := by simp [absI, h]
theorem absI_of {n : Int} (h : 0 ≤ n) : absI n = n := by unfold absI; rw [if_neg (by omega)]
/-- Is the product not too great? -/
def prodOk (a b : Int) : Bool := decide (b = 0) || decide (absI a ≤ 4611686018427387904 / absI b)
/-- The product, or nothing where it is too great. -/
def prodV (a b : Int) : Int := if prodOk a b then a * b else 0

theorem mul_abs (a b : Int) : absI (a * b) = absI a * absI b := by
  unfold absI
  by_cases h1 : a < 0 <;> by_cases h2 : b < 0
  · have : 0 < a * b := Int.mul_pos_of_neg_of_neg h1 h2
    rw [if_neg (by omega), if_pos h1, if_pos h2, Int.neg_mul_neg]
  · rw [if_pos h1, if_neg h2]
    by_cases h3 : b = 0
    · subst h3; simp
    · have : a * b < 0 := Int.mul_neg_of_neg_of_pos h1 (by omega)
      rw [if_pos this, Int.neg_mul]
  · rw [if_neg h1, if_pos h2]
    by_cases h3 : a = 0
    · subst h3; simp
    · have : a * b < 0 := Int.mul_neg_of_pos_of_neg (by omega) h2
      rw [if_pos this, Int.mul_neg]
  · have : 0 ≤ a * b := Int.mul_nonneg (by omega) (by omega)
    rw [if_neg (by omega), if_neg h1, if_neg h2]
theorem prod_bound {a b : Int} (h : prodOk a b = true) : -4611686018427387904 ≤ a * b ∧ a * b ≤ 4611686018427387904 := by
  by_cases hb : b = 0
  · subst hb; simp
  · have hle : absI a ≤ 4611686018427387904 / absI b := by
      simp [prodOk, hb] at h; exact h
    have hp := absI_pos hb
    have hm : absI a * absI b ≤ 4611686018427387904 := Int.mul_le_of_le_ediv (by omega) hle
    rw [← mul_abs] at hm
    unfold absI at hm
    split at hm <;> omega
theorem prodV_bound (a b : Int) : -4611686018427387904 ≤ prodV a b ∧ prodV a b ≤ 4611686018427387904 := by
  unfold prodV
  split
  · exact prod_bound (by assumption)
  · omega
theorem prodOk_one (a : Int) (h1 : -1000000000000000 ≤ a) (h2 : a ≤ 1000000000000000) : prodOk a 1 = true := by
  have : absI a ≤ 1000000000000000 := by unfold absI; split <;> omega
  simp [prodOk, absI_of (n := 1) (by omega)]
  omega
theorem prodV_one (a : Int) (h1 : -1000000000000000 ≤ a) (h2 : a ≤ 1000000000000000) : prodV a 1 = a := by simp [prodV, prodOk_one a h1 h2]
theorem absI_negate (a : Int) : absI (-a) = absI a := by unfold absI; split <;> split <;> omega
theorem prodOk_negate (a b : Int) : prodOk (-a) b = prodOk a b := by simp [prodOk, absI_negate]
theorem prodV_negate (a b : Int) : prodV (-a) b = - prodV a b := by
  unfold prodV
  rw [prodOk_negate]
  split
  · rw [Int.neg_mul]
  · rfl

theorem size_any (n : Int) (w : World) (_h : -9223372036854775808 < n) (_h2 : n ≤ 9223372036854775807) : Calls Try.prog 56 #[.int .i64 n] w fun e w' => e = .returned (.int .i64 (absI n)) ∧ w' = w := by
  by_cases hn : n < 0
  · rw [absI_neg hn]
    go_enter Try.func56, Try.ntmps56
    go_wp2
    go_ret
    exact ⟨rfl, rfl⟩
  · rw [absI_of (by omega)]
    go_enter Try.func56, Try.ntmps56
    go_wp2
    go_ret
    exact ⟨rfl, rfl⟩

theorem product_any (a b : Int) (w : World) (h1 : -9223372036854775808 < a) (h2 : a ≤ 9223372036854775807) (h3 : -9223372036854775808 < b) (h4 : b ≤ 9223372036854775807) :
    Calls Try.prog 52 #[.int .i64 a, .int .i64 b] w fun e w' => e = .returned (.tuple #[.int .i64 (prodV a b), .bool (prodOk a b)]) ∧ w' = w := by
  by_cases hb : b = 0
  · subst hb
    have e1 : prodOk a 0 = true := by simp [prodOk]
    have e2 : prodV a 0 = 0 := by simp [prodV]
    rw [e1, e2]
    go_enter Try.func52, Try.ntmps52
    go_wp2
    go_ret2
    exact ⟨by simp, rfl⟩
  · have hb' : (b != 0) = true := by simp [hb]
    have hp := absI_pos hb
    have hq : 0 ≤ 4611686018427387904 / absI b := Int.ediv_nonneg (by omega) (by omega)
    have hq2 : 4611686018427387904 / absI b ≤ 4611686018427387904 := Int.ediv_le_self _ (by omega)
    have sa := fun w => size_any a w h1 h2
    have sb := fun w => size_any b w h3 h4
    by_cases hle : absI a ≤ 4611686018427387904 / absI b
    · have e1 : prodOk a b = true := by simp [prodOk, hb, hle]
      have e2 : prodV a b = a * b := by simp [prodV, e1]
      have bd := prod_bound e1
      have hw : wrap64 (a * b) = a * b := IntWalk.wrap64_in _ ⟨by omega, by omega⟩
      rw [e1, e2]
      have HB : Hid (b ≠ 0) := hb
      clear hb e1 e2 bd
      generalize absI a = x at sa hle
      generalize absI b = y at sb hle hp hq hq2
      go_enter Try.func52, Try.ntmps52
      go_wp2_with fail
      refine (sa _).mono ?_
      rintro e w1 ⟨rfl, rfl⟩
      go_wp2_with fail
      refine (sb _).mono ?_
      rintro e w2 ⟨rfl, rfl⟩
      go_wp2
      go_ret2
      refine ⟨?_, rfl⟩
      first
        | rfl
        | (show Ending.returned (.tuple #[.int .i64 (wrap64 (a * b)), .bool true]) = _; rw [hw])
    · have e1 : prodOk a b = false := by simp [prodOk, hb]; omega
      have e2 : prodV a b = 0 := by simp [prodV, e1]
      rw [e1, e2]
      clear hb e1 e2
      generalize absI a = x at sa hle
      generalize absI b = y at sb hle hp hq hq2
      go_enter Try.func52, Try.ntmps52
      go_wp2_with fail
      refine (sa _).mono ?_
      rintro e w1 ⟨rfl, rfl⟩
      go_wp2_with fail
      refine (sb _).mono ?_
      rintro e w2 ⟨rfl, rfl⟩
      go_wp2
      go_ret2
      exact ⟨rfl, rfl⟩

end Go.Proofs.Ytjhobhkdncdnaaa
