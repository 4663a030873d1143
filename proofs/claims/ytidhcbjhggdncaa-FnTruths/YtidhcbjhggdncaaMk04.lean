/- Texts put together: CalA CalB CalC CalD -/
import Derived.Test.YtidhcbjhggdncaaMk01
import Derived.Deep.RegionHeld3
/- CalA -/
namespace Go.Proofs.Ytidhcbjhggdncaa
open Go.RowKit Go.Deep

/-- The size of a number. -/
def absI (n : Int) : Int := if n < 0 then -n else n
theorem absI_nonneg (n : Int) : 0 ≤ absI n := by unfold absI; split <;> omega
theorem absI_pos {n : Int} (h : n ≠ 0) : 1 ≤ absI n := by unfold absI; split <;> omega
theorem absI_neg {n : Int} (h : n < 0) : absI n = -n := by simp [absI, h]
theorem absI_of {n : Int} (h : 0 ≤ n) : absI n = n := by unfold absI; rw [if_neg (by omega)]
/-- Is the product not too great? -/
def prodOk (a b : Int) : Bool := decide (b = 0) || decide (absI a ≤ 4611686018427387904 / absI b)
/-- The product, or nothing where it is too great. -/
def prodV (a b : Int) : Int := if prodOk a b then a * b else 0

theorem mul_abs (a b : Int) : absI (a * b) = absI a * absI b := by
  unfold absI
  by_cases h1 : a < 0 <;> by_cases h2 : b < 0
  · have : 0 < a * b := Int.mul_pos_of_neg_of_neg h1 h2
    rw [if_neg (by omega), if_pos h1, if_pos h2, Int.neg_mul_neg]
  · rw [if_pos h1, if_neg h2]
    by_cases h3 : b = 0
    · subst h3; simp
    · have : a * b < 0 := Int.mul_neg_of_neg_of_pos h1 (by omega)
      rw [if_pos this, Int.neg_mul]
  · rw [if_neg h1, if_pos h2]
    by_cases h3 : a = 0
    · subst h3; simp
    · have : a * b < 0 := Int.mul_neg_of_pos_of_neg (by omega) h2
      rw [if_pos this, Int.mul_neg]
  · have : 0 ≤ a * b := Int.mul_nonneg (by omega) (by omega)
    rw [if_neg (by omega), if_neg h1, if_neg h2]
theorem prod_bound {a b : Int} (h : prodOk a b = true) : -4611686018427387904 ≤ a * b ∧ a * b ≤ 4611686018427387904 := by
  by_cases hb : b = 0
  · subst hb; simp
  · have hle : absI a ≤ 4611686018427387904 / absI b := by
      simp [prodOk, hb] at h; exact h
    have hp := absI_pos hb
    have hm : absI a * absI b ≤ 4611686018427387904 := Int.mul_le_of_le_ediv (by omega) hle
    rw [← mul_abs] at hm
    unfold absI at hm
    split at hm <;> omega
theorem prodV_bound (a b : Int) : -4611686018427387904 ≤ prodV a b ∧ prodV a b ≤ 4611686018427387904 := by
  unfold prodV
  split
  · exact prod_bound (by assumption)
  · omega
theorem prodOk_one (a : Int) (h1 : -1000000000000000 ≤ a) (h2 : a ≤ 1000000000000000) : prodOk a 1 = true := by
  have : absI a ≤ 1000000000000000 := by unfold absI; split <;> omega
  simp [prodOk, absI_of (n := 1) (by omega)]
  omega
theorem prodV_one (a : Int) (h1 : -1000000000000000 ≤ a) (h2 : a ≤ 1000000000000000) : prodV a 1 = a := by simp [prodV, prodOk_one a h1 h2]
theorem absI_negate (a : Int) : absI (-a) = absI a := by unfold absI; split <;> split <;> omega
theorem prodOk_negate (a b : Int) : prodOk (-a) b = prodOk a b := by simp [prodOk, absI_negate]
theorem prodV_negate (a b : Int) : prodV (-a) b = - prodV a b := by
  unfold prodV
  rw [prodOk_negate]
  split
  · rw [Int.neg_mul]
  · rfl

theorem size_any (n : Int) (w : World) (_h : -9223372036854775808 < n) (_h2 : n ≤ 9223372036854775807) : Calls Try.prog 98 #[.int .i64 n] w fun e w' => e = .returned (.int .i64 (absI n)) ∧ w' = w := by
  by_cases hn : n < 0
  · rw [absI_neg hn]
    go_enter Try.func98, Try.ntmps98
    go_wp2
    go_ret
    exact ⟨rfl, rfl⟩
  · rw [absI_of (by omega)]
    go_enter Try.func98, Try.ntmps98
    go_wp2
    go_ret
    exact ⟨rfl, rfl⟩

theorem product_any (a b : Int) (w : World) (h1 : -9223372036854775808 < a) (h2 : a ≤ 9223372036854775807) (h3 : -9223372036854775808 < b) (h4 : b ≤ 9223372036854775807) :
    Calls Try.prog 91 #[.int .i64 a, .int .i64 b] w fun e w' => e = .returned (.tuple #[.int .i64 (prodV a b), .bool (prodOk a b)]) ∧ w' = w := by
  by_cases hb : b = 0
  · subst hb
    have e1 : prodOk a 0 = true := by simp [prodOk]
    have e2 : prodV a 0 = 0 := by simp [prodV]
    rw [e1, e2]
    go_enter Try.func91, Try.ntmps91
    go_wp2
    go_ret2
    exact ⟨by simp, rfl⟩
  · have hb' : (b != 0) = true := by simp [hb]
    have hp := absI_pos hb
    have hq : 0 ≤ 4611686018427387904 / absI b := Int.ediv_nonneg (by omega) (by omega)
    have hq2 : 4611686018427387904 / absI b ≤ 4611686018427387904 := Int.ediv_le_self _ (by omega)
    have sa := fun w => size_any a w h1 h2
    have sb := fun w => size_any b w h3 h4
    by_cases hle : absI a ≤ 4611686018427387904 / absI b
    · have e1 : prodOk a b = true := by simp [prodOk, hb, hle]
      have e2 : prodV a b = a * b := by simp [prodV, e1]
      have bd := prod_bound e1
      have hw : wrap64 (a * b) = a * b := IntWalk.wrap64_in _ ⟨by omega, by omega⟩
      rw [e1, e2]
      have HB : Hid (b ≠ 0) := hb
      clear hb e1 e2 bd
      generalize absI a = x at sa hle
      generalize absI b = y at sb hle hp hq hq2
      go_enter Try.func91, Try.ntmps91
      go_wp2_with fail
      refine (sa _).mono ?_
      rintro e w1 ⟨rfl, rfl⟩
      go_wp2_with fail
      refine (sb _).mono ?_
      rintro e w2 ⟨rfl, rfl⟩
      go_wp2
      go_ret2
      refine ⟨?_, rfl⟩
      first
        | rfl
        | (show Ending.returned (.tuple #[.int .i64 (wrap64 (a * b)), .bool true]) = _; rw [hw])
    · have e1 : prodOk a b = false := by simp [prodOk, hb]; omega
      have e2 : prodV a b = 0 := by simp [prodV, e1]
      rw [e1, e2]
      clear hb e1 e2
      generalize absI a = x at sa hle
      generalize absI b = y at sb hle hp hq hq2
      go_enter Try.func91, Try.ntmps91
      go_wp2_with fail
      refine (sa _).mono ?_
      rintro e w1 ⟨rfl, rfl⟩
      go_wp2_with fail
      refine (sb _).mono ?_
      rintro e w2 ⟨rfl, rfl⟩
      go_wp2
      go_ret2
      exact ⟨rfl, rfl⟩

end Go.Proofs.Ytidhcbjhggdncaa

/- CalB -/
namespace Go.Proofs.Ytidhcbjhggdncaa
open Go.RowKit Go.Deep

theorem raised_any (n : Int) (s S : Nat) (w : World) (h1 : -1000000000000000 ≤ n) (h2 : n ≤ 1000000000000000) (hs : s ≤ S) (hS : S ≤ 6) :
    Calls Try.prog 90 #[.agg #[.int .i64 n, .int .i64 s], .int .i64 S] w fun e w' =>
      e = .returned (.tuple #[.int .i64 (prodV n (p10 (S - s))), .bool (prodOk n (p10 (S - s)))]) ∧ ∃ q o1, w' = (w.alloc o1).drewN q := by
  have b1 := p10_pos (S - s)
  have b2 : p10 (S - s) ≤ 1000000 := p10_le (by omega)
  have hc : ((S - s : Nat) : Int) = (S : Int) - (s : Int) := by omega
  have T := fun w => tenTo_any (S - s) w (by omega)
  rw [hc] at T
  have Pr := fun w => product_any n (p10 (S - s)) w (by omega) (by omega) (by omega) (by omega)
  generalize p10 (S - s) = p at *
  go_enter Try.func90, Try.ntmps90
  go_wp2_with fail
  go_quiet (first | (go_at_call 97; with_reducible exact Calls.quiet_of_same (T _)) | (go_at_call 91; with_reducible exact Calls.quiet_of_same (Pr _)))
  go_wp2
  go_ret2
  exact ⟨rfl, _, _, rfl⟩

theorem unsigned_any (n : Int) (s : Int) (w : World) (h1 : -1000000000000000 ≤ n) (h2 : n ≤ 1000000000000000) :
    Calls Try.prog 92 #[.agg #[.int .i64 n, .int .i64 s]] w fun e w' =>
      e = .returned (.agg #[.int .i64 (absI n), .int .i64 s]) ∧ ∃ q o1 o2, w' = ((w.alloc o1).alloc o2).drewN q := by
  have sz := fun w => size_any n w (by omega) (by omega)
  go_enter Try.func92, Try.ntmps92
  go_wp2_with fail
  go_region_with (first | (go_at_call 98; refine (sz _).mono ?_; rintro e w1 ⟨rfl, rfl⟩))
  all_goals go_wp2
  all_goals simp [bodyPost, results, Try.results92, go_sem]
  all_goals exact ⟨1, _, _, rfl⟩

theorem times_any (n n' s s' : Int) (w : World) (h1 : -1000000000000000 ≤ n) (h2 : n ≤ 1000000000000000) (h1' : -1000000000000000 ≤ n') (h2' : n' ≤ 1000000000000000) (b1 : 0 ≤ s) (b2 : s ≤ 6) (b1' : 0 ≤ s') (b2' : s' ≤ 6) :
    Calls Try.prog 83 #[.agg #[.int .i64 n, .int .i64 s], .agg #[.int .i64 n', .int .i64 s']] w fun e w' =>
      e = .returned (.tuple #[.agg #[.int .i64 (prodV n n'), .int .i64 (s + s')], .bool (prodOk n n')]) ∧ Below w.heap.size w w' := by
  have Pr := fun w => product_any n n' w (by omega) (by omega) (by omega) (by omega)
  go_enter Try.func83, Try.ntmps83
  go_wp2_with fail
  refine (Pr _).mono ?_
  rintro e w1 ⟨rfl, rfl⟩
  go_wp2
  simp [bodyPost, results, Try.results83, go_sem]
  repeat (first | with_reducible exact Below.refl _ _ | with_reducible apply bl_alloc | with_reducible apply Below.drew | with_reducible apply below_drewN)

/-- The sum at one scale never leaves 64 bits: one of both is its own. -/
theorem sum_bound (n n' : Int) (s s' : Nat) (h1 : -1000000000000000 ≤ n) (h2 : n ≤ 1000000000000000) (h1' : -1000000000000000 ≤ n') (h2' : n' ≤ 1000000000000000) :
    -9000000000000000000 ≤ prodV n (p10 (max s s' - s)) + prodV n' (p10 (max s s' - s')) ∧ prodV n (p10 (max s s' - s)) + prodV n' (p10 (max s s' - s')) ≤ 9000000000000000000 := by
  have v1 := prodV_bound n (p10 (max s s' - s))
  have v2 := prodV_bound n' (p10 (max s s' - s'))
  by_cases h : s ≤ s'
  · have e : max s s' - s' = 0 := by omega
    rw [e] at v2 ⊢
    have e1 : p10 0 = 1 := rfl
    rw [e1, prodV_one n' h1' h2'] at *
    omega
  · have e : max s s' - s = 0 := by omega
    rw [e] at v1 ⊢
    have e1 : p10 0 = 1 := rfl
    rw [e1, prodV_one n h1 h2] at *
    omega

theorem plus_any (n n' : Int) (s s' : Nat) (w : World) (h1 : -1000000000000000 ≤ n) (h2 : n ≤ 1000000000000000) (h1' : -1000000000000000 ≤ n') (h2' : n' ≤ 1000000000000000) (hs : s ≤ 6) (hs' : s' ≤ 6) :
    Calls Try.prog 82 #[.agg #[.int .i64 n, .int .i64 s], .agg #[.int .i64 n', .int .i64 s']] w fun e w' =>
      e = .returned (.tuple #[.agg #[.int .i64 (prodV n (p10 (max s s' - s)) + prodV n' (p10 (max s s' - s'))), .int .i64 ((max s s' : Nat) : Int)], .bool (prodOk n (p10 (max s s' - s)) && prodOk n' (p10 (max s s' - s')))]) ∧ Below w.heap.size w w' := by
  have sb := sum_bound n n' s s' h1 h2 h1' h2'
  have v1 := prodV_bound n (p10 (max s s' - s))
  have v2 := prodV_bound n' (p10 (max s s' - s'))
  by_cases h : s < s'
  · rw [Nat.max_eq_right (Nat.le_of_lt h)] at *
    have R1 := fun w => raised_any n s s' w h1 h2 (by omega) (by omega)
    have R2 := fun w => raised_any n' s' s' w h1' h2' (by omega) (by omega)
    generalize prodV n (p10 (s' - s)) = x at *
    generalize prodV n' (p10 (s' - s')) = y at *
    generalize prodOk n (p10 (s' - s)) = xo at *
    generalize prodOk n' (p10 (s' - s')) = yo at *
    go_enter Try.func82, Try.ntmps82
    go_wp2_with fail
    refine (R1 _).mono ?_
    rintro e w1 ⟨rfl, q1, o1, rfl⟩
    go_wp2_with fail
    refine (R2 _).mono ?_
    rintro e w2 ⟨rfl, q2, o2, rfl⟩
    cases xo
    · go_wp2
      simp [bodyPost, results, Try.results82, go_sem]
      repeat (first | with_reducible exact Below.refl _ _ | with_reducible refine bl_set ?_ (by dsimp only; omega) _ | with_reducible apply bl_alloc | with_reducible apply Below.drew | with_reducible apply below_drewN)
    · go_wp2
      simp [bodyPost, results, Try.results82, go_sem]
      repeat (first | with_reducible exact Below.refl _ _ | with_reducible refine bl_set ?_ (by dsimp only; omega) _ | with_reducible apply bl_alloc | with_reducible apply Below.drew | with_reducible apply below_drewN)
  · rw [Nat.max_eq_left (by omega)] at *
    have R1 := fun w => raised_any n s s w h1 h2 (by omega) (by omega)
    have R2 := fun w => raised_any n' s' s w h1' h2' (by omega) (by omega)
    generalize prodV n (p10 (s - s)) = x at *
    generalize prodV n' (p10 (s - s')) = y at *
    generalize prodOk n (p10 (s - s)) = xo at *
    generalize prodOk n' (p10 (s - s')) = yo at *
    go_enter Try.func82, Try.ntmps82
    go_wp2_with fail
    refine (R1 _).mono ?_
    rintro e w1 ⟨rfl, q1, o1, rfl⟩
    go_wp2_with fail
    refine (R2 _).mono ?_
    rintro e w2 ⟨rfl, q2, o2, rfl⟩
    cases xo
    · go_wp2
      simp [bodyPost, results, Try.results82, go_sem]
      repeat (first | with_reducible exact Below.refl _ _ | with_reducible refine bl_set ?_ (by dsimp only; omega) _ | with_reducible apply bl_alloc | with_reducible apply Below.drew | with_reducible apply below_drewN)
    · go_wp2
      simp [bodyPost, results, Try.results82, go_sem]
      repeat (first | with_reducible exact Below.refl _ _ | with_reducible refine bl_set ?_ (by dsimp only; omega) _ | with_reducible apply bl_alloc | with_reducible apply Below.drew | with_reducible apply below_drewN)
end Go.Proofs.Ytidhcbjhggdncaa

/- CalC -/
namespace Go.Proofs.Ytidhcbjhggdncaa
open Go.RowKit Go.Deep

/-- Six digits more, one after the other; nothing where what is there is too great ahead of one. -/
def digits : Nat → Int → Int → Int → Option Int
  | 0, n, _, _ => some n
  | k + 1, n, r, y => if 1000000000000000 < n ∨ 461168601842738790 < r then none else digits k (n * 10 + r * 10 / y) (r * 10 % y) y
def quotV (x y : Int) : Int := (digits 6 (x / y) (x % y) y).getD 0
def quotOk (x y : Int) : Bool := (digits 6 (x / y) (x % y) y).isSome

theorem quotient_any (x y : Int) (w : World) (h0 : 0 ≤ x) (h1 : x ≤ 4611686018427387904) (h2 : 1 ≤ y) (h3 : y ≤ 4611686018427387904) :
    Calls Try.prog 93 #[.int .i64 x, .int .i64 y] w fun e w' => e = .returned (.tuple #[.int .i64 (quotV x y), .bool (quotOk x y)]) ∧ ∃ q, w' = w.drewN q := by
  go_enter Try.func93, Try.ntmps93
  go_wp2_with fail
  go_quiet (fail)
  go_wp2_with fail
  go_loop [6, 7, 14] (fun a b c => ∃ (j : Nat) (m r : Int), j ≤ 6 ∧ 0 ≤ m ∧ m ≤ 4611686018427387904 ∧ 0 ≤ r ∧ r < y ∧ digits (6 - j) m r y = digits 6 (x / y) (x % y) y ∧ a = .int .i64 m ∧ b = .int .i64 r ∧ c = .int .i64 j)
    (fun _ _ c => 6 - (intOf c).toNat)
  case atStart => exact ⟨0, x / y, x % y, by omega, Int.ediv_nonneg h0 (by omega), Int.le_trans (Int.ediv_le_self _ h0) h1, Int.emod_nonneg _ (by omega), Int.emod_lt_of_pos _ (by omega), rfl, rfl, rfl, rfl⟩
  case round =>
    obtain ⟨j, m, r, hj, m0, m1, r0, r1, hd, rfl, rfl, rfl⟩ := hrel
    have HD : Hid (digits (6 - j) m r y = digits 6 (x / y) (x % y) y) := hd
    have d1 : 0 ≤ r * 10 / y := Int.ediv_nonneg (by omega) (by omega)
    have d2 : r * 10 / y ≤ 9 := by
      have : r * 10 / y < 10 := Int.ediv_lt_of_lt_mul (by omega) (by omega)
      omega
    have d3 : 0 ≤ r * 10 % y := Int.emod_nonneg _ (by omega)
    have d4 : r * 10 % y < y := Int.emod_lt_of_pos _ (by omega)
    clear hd
    by_cases hj6 : j < 6
    · have hs : digits (6 - j) m r y = if 1000000000000000 < m ∨ 461168601842738790 < r then none else digits (6 - (j + 1)) (m * 10 + r * 10 / y) (r * 10 % y) y := by
        rw [show 6 - j = (6 - (j + 1)) + 1 by omega]
        rfl
      have HS : Hid (digits (6 - j) m r y = if 1000000000000000 < m ∨ 461168601842738790 < r then none else digits (6 - (j + 1)) (m * 10 + r * 10 / y) (r * 10 % y) y) := hs
      clear hs
      by_cases hm : 1000000000000000 < m
      · go_wp2
        go_ret2
        have e := HD.out
        rw [HS.out, if_pos (Or.inl hm)] at e
        exact ⟨by simp [quotV, quotOk, ← e], _, rfl⟩
      · by_cases hr : 461168601842738790 < r
        · have hd : decide (461168601842738790 < r) = true := by simpa using hr
          go_wp2
          go_ret2
          have e := HD.out
          rw [HS.out, if_pos (Or.inr hr)] at e
          exact ⟨by simp [quotV, quotOk, ← e], _, rfl⟩
        · have hd : decide (461168601842738790 < r) = false := by simpa using hr
          have hh := HS.out
          rw [if_neg (by omega)] at hh
          have HH : Hid (digits (6 - j) m r y = digits (6 - (j + 1)) (m * 10 + r * 10 / y) (r * 10 % y) y) := hh
          clear hh
          go_wp2
          go_round
          case rel => exact ⟨j + 1, m * 10 + r * 10 / y, r * 10 % y, by omega, by omega, by omega, d3, d4, HH.out.symm.trans HD.out, rfl, rfl, by go_num⟩
          case measure => simp [intOf]; omega
    · go_wp2
      go_ret2
      obtain rfl : j = 6 := by omega
      have e : some m = digits 6 (x / y) (x % y) y := HD.out
      exact ⟨by simp [quotV, quotOk, ← e], _, rfl⟩

theorem digits_bound : ∀ (k : Nat) (n r y v : Int), 0 ≤ n → n ≤ 4611686018427387904 → 0 ≤ r → r < y → digits k n r y = some v → 0 ≤ v ∧ v ≤ 4611686018427387904
  | 0, n, r, y, v, h1, h2, _, _, h => by
    simp [digits] at h
    omega
  | k + 1, n, r, y, v, h1, h2, h3, h4, h => by
    unfold digits at h
    split at h
    · simp at h
    · have d1 : 0 ≤ r * 10 / y := Int.ediv_nonneg (by omega) (by omega)
      have d2 : r * 10 / y < 10 := Int.ediv_lt_of_lt_mul (by omega) (by omega)
      exact digits_bound k _ _ y v (by omega) (by omega) (Int.emod_nonneg _ (by omega)) (Int.emod_lt_of_pos _ (by omega)) h
theorem quotV_bound (x y : Int) (h0 : 0 ≤ x) (h1 : x ≤ 4611686018427387904) (h2 : 1 ≤ y) : 0 ≤ quotV x y ∧ quotV x y ≤ 4611686018427387904 := by
  unfold quotV
  cases h : digits 6 (x / y) (x % y) y with
  | none => simp
  | some v =>
    have := digits_bound 6 (x / y) (x % y) y v (Int.ediv_nonneg h0 (by omega)) (Int.le_trans (Int.ediv_le_self _ h0) h1) (Int.emod_nonneg _ (by omega)) (Int.emod_lt_of_pos _ (by omega)) h
    simpa using this

/-- The quotient's N: with the sign. -/
def overV (n n' : Int) (x y : Int) : Int := if (decide (n < 0)) != (decide (n' < 0)) then -quotV x y else quotV x y

set_option maxHeartbeats 1000000 in
theorem over_any (n n' : Int) (s s' : Nat) (w : World) (h1 : -1000000000000000 ≤ n) (h2 : n ≤ 1000000000000000) (h1' : -1000000000000000 ≤ n') (h2' : n' ≤ 1000000000000000) (hs : s ≤ 6) (hs' : s' ≤ 6) :
    Calls Try.prog 84 #[.agg #[.int .i64 n, .int .i64 s], .agg #[.int .i64 n', .int .i64 s']] w fun e w' =>
      ∃ N S fits, e = .returned (.tuple #[.agg #[.int .i64 N, .int .i64 S], .bool fits]) ∧
        fits = (prodOk (absI n) (p10 (6 - s)) && prodOk (absI n') (p10 (6 - s')) && (n' != 0) && quotOk (prodV (absI n) (p10 (6 - s))) (prodV (absI n') (p10 (6 - s')))) ∧
        (fits = true → N = overV n n' (prodV (absI n) (p10 (6 - s))) (prodV (absI n') (p10 (6 - s'))) ∧ S = 6) ∧ Below w.heap.size w w' := by
  have a0 := absI_nonneg n
  have a0' := absI_nonneg n'
  have a1 : absI n ≤ 1000000000000000 := by unfold absI; split <;> omega
  have a1' : absI n' ≤ 1000000000000000 := by unfold absI; split <;> omega
  have U1 := fun w => unsigned_any n s w h1 h2
  have U2 := fun w => unsigned_any n' s' w h1' h2'
  have R1 := fun w => raised_any (absI n) s 6 w (by omega) a1 hs (by omega)
  have R2 := fun w => raised_any (absI n') s' 6 w (by omega) a1' hs' (by omega)
  have v1 := prodV_bound (absI n) (p10 (6 - s))
  have v2 := prodV_bound (absI n') (p10 (6 - s'))
  have p1 := p10_pos (6 - s)
  have p2 := p10_pos (6 - s')
  have x0 : 0 ≤ prodV (absI n) (p10 (6 - s)) := by
    unfold prodV; split
    · exact Int.mul_nonneg a0 (by omega)
    · omega
  have y0 : 0 ≤ prodV (absI n') (p10 (6 - s')) := by
    unfold prodV; split
    · exact Int.mul_nonneg a0' (by omega)
    · omega
  have yz : prodOk (absI n') (p10 (6 - s')) = true → (prodV (absI n') (p10 (6 - s')) = 0 ↔ n' = 0) := by
    intro h
    unfold prodV
    rw [if_pos h]
    constructor
    · intro e
      rcases Int.mul_eq_zero.1 e with e | e
      · unfold absI at e; split at e <;> omega
      · omega
    · intro e; subst e; simp [absI_of (n := 0) (by omega)]
  generalize prodV (absI n) (p10 (6 - s)) = x at *
  generalize prodV (absI n') (p10 (6 - s')) = y at *
  generalize prodOk (absI n) (p10 (6 - s)) = xo at *
  generalize prodOk (absI n') (p10 (6 - s')) = yo at *
  generalize absI n = an at *
  generalize absI n' = an' at *
  go_enter Try.func84, Try.ntmps84
  go_wp2_with fail
  refine (U1 _).mono ?_
  rintro e w1 ⟨rfl, q1, o1, o2, rfl⟩
  go_wp2_with fail
  refine (R1 _).mono ?_
  rintro e w2 ⟨rfl, q2, o3, rfl⟩
  go_wp2_with fail
  refine (U2 _).mono ?_
  rintro e w3 ⟨rfl, q3, o4, o5, rfl⟩
  go_wp2_with fail
  refine (R2 _).mono ?_
  rintro e w4 ⟨rfl, q4, o6, rfl⟩
  clear U1 U2 R1 R2
  cases xo
  · go_wp2
    simp [bodyPost, results, Try.results84, go_sem]
    repeat (first | with_reducible exact Below.refl _ _ | with_reducible refine bl_set ?_ (by dsimp only; omega) _ | with_reducible apply bl_alloc | with_reducible apply Below.drew | with_reducible apply below_drewN)
  cases yo
  · go_wp2
    simp [bodyPost, results, Try.results84, go_sem]
    repeat (first | with_reducible exact Below.refl _ _ | with_reducible refine bl_set ?_ (by dsimp only; omega) _ | with_reducible apply bl_alloc | with_reducible apply Below.drew | with_reducible apply below_drewN)
  have yz' := yz rfl
  clear yz
  by_cases hy : y = 0
  · have hn' : n' = 0 := yz'.1 hy
    have HN : Hid (n' = 0) := hn'
    subst hy
    clear hn' yz'
    go_wp2
    simp [bodyPost, results, Try.results84, go_sem, HN.out]
    repeat (first | with_reducible exact Below.refl _ _ | with_reducible refine bl_set ?_ (by dsimp only; omega) _ | with_reducible apply bl_alloc | with_reducible apply Below.drew | with_reducible apply below_drewN)
  · have hn' : n' ≠ 0 := fun h => hy (yz'.2 h)
    have HN : Hid (n' ≠ 0) := hn'
    have hy' : (y == 0) = false := by simp [hy]
    have Q := fun w => quotient_any x y w x0 v1.2 (by omega) v2.2
    have qb := quotV_bound x y x0 v1.2 (by omega)
    clear yz'
    by_cases hsg : (!(decide (n < 0) == decide (n' < 0))) = true
    · have ho : Hid (overV n n' x y = -quotV x y) := by
        show _ = _
        unfold overV
        rw [if_pos (by exact hsg)]
      clear hy hn'
      go_wp2_with fail
      refine (Q _).mono ?_
      rintro e w5 ⟨rfl, q5, rfl⟩
      clear Q
      go_wp2
      refine bodyPost_ret (v := .tuple #[.agg #[.int .i64 (-quotV x y), .int .i64 6], .bool (quotOk x y)]) (by simp [results, Try.results84, go_sem]) rfl ⟨-quotV x y, 6, quotOk x y, rfl, by simp [HN.out], fun _ => ⟨ho.out.symm, rfl⟩, ?_⟩
      repeat (first | with_reducible exact Below.refl _ _ | with_reducible refine bl_set ?_ (by dsimp only; omega) _ | with_reducible apply bl_alloc | with_reducible apply Below.drew | with_reducible apply below_drewN)
    · have hsg' : (!(decide (n < 0) == decide (n' < 0))) = false := by simpa using hsg
      have ho : Hid (overV n n' x y = quotV x y) := by
        show _ = _
        unfold overV
        rw [if_neg (by exact hsg)]
      clear hy hn' hsg
      go_wp2_with fail
      refine (Q _).mono ?_
      rintro e w5 ⟨rfl, q5, rfl⟩
      clear Q
      go_wp2
      refine bodyPost_ret (v := .tuple #[.agg #[.int .i64 (quotV x y), .int .i64 6], .bool (quotOk x y)]) (by simp [results, Try.results84, go_sem]) rfl ⟨quotV x y, 6, quotOk x y, rfl, by simp [HN.out], fun _ => ⟨ho.out.symm, rfl⟩, ?_⟩
      repeat (first | with_reducible exact Below.refl _ _ | with_reducible refine bl_set ?_ (by dsimp only; omega) _ | with_reducible apply bl_alloc | with_reducible apply Below.drew | with_reducible apply below_drewN)
end Go.Proofs.Ytidhcbjhggdncaa

/- CalD -/
namespace Go.Proofs.Ytidhcbjhggdncaa
open Go.RowKit Go.Deep

/-- A struct of two fields, of the call's own, at the head of block b. -/
def Own2 (w : World) (b : Nat) (v0 v1 : Value) : Prop :=
  b < w.heap.size ∧ w.cell? ⟨b, 0, none⟩ = some v0 ∧ w.cell? ⟨b, 1, none⟩ = some v1 ∧ w.frozen? ⟨b, 0, none⟩ = false ∧ w.frozen? ⟨b, 1, none⟩ = false
theorem Own2.below {w w' : World} {b : Nat} {v0 v1 : Value} (h : Own2 w b v0 v1) (hb : Below w.heap.size w w') : Own2 w' b v0 v1 := by
  obtain ⟨hl, h0, h1, f0, f1⟩ := h
  exact ⟨Nat.lt_of_lt_of_le hl hb.size, (hb.cell (p := ⟨b, 0, none⟩) hl).trans h0, (hb.cell (p := ⟨b, 1, none⟩) hl).trans h1, (hb.frozen (p := ⟨b, 0, none⟩) hl).trans f0, (hb.frozen (p := ⟨b, 1, none⟩) hl).trans f1⟩
theorem Own2.at (w : World) (b : Nat) (v0 v1 : Value) (t : TypeId) (e : b = w.heap.size) : Own2 (w.alloc (.cells #[v0, v1] t)) b v0 v1 := by
  subst e
  refine ⟨by simp, ?_, ?_, ?_, ?_⟩ <;> simp [go_sem]
/-- .. of four. -/
def Own4 (w : World) (b : Nat) (v0 v1 v2 v3 : Value) : Prop :=
  At4 w b v0 v1 v2 v3 ∧ w.frozen? ⟨b, 0, none⟩ = false ∧ w.frozen? ⟨b, 1, none⟩ = false ∧ w.frozen? ⟨b, 2, none⟩ = false ∧ w.frozen? ⟨b, 3, none⟩ = false
theorem Own4.below {w w' : World} {b : Nat} {v0 v1 v2 v3 : Value} (h : Own4 w b v0 v1 v2 v3) (hb : Below w.heap.size w w') : Own4 w' b v0 v1 v2 v3 := by
  obtain ⟨h4, f0, f1, f2, f3⟩ := h
  have hl := h4.1
  exact ⟨h4.below hb, (hb.frozen (p := ⟨b, 0, none⟩) hl).trans f0, (hb.frozen (p := ⟨b, 1, none⟩) hl).trans f1, (hb.frozen (p := ⟨b, 2, none⟩) hl).trans f2, (hb.frozen (p := ⟨b, 3, none⟩) hl).trans f3⟩
theorem Own4.at (w : World) (b : Nat) (v0 v1 v2 v3 : Value) (t : TypeId) (e : b = w.heap.size) : Own4 (w.alloc (.cells #[v0, v1, v2, v3] t)) b v0 v1 v2 v3 := by
  subst e
  refine ⟨At4.new w v0 v1 v2 v3 t, ?_, ?_, ?_, ?_⟩ <;> simp [go_sem]

/-- What is reckoned, as a number's parts: (0, 7) is none. -/
def calcP (op n : Int) (s : Nat) (n' : Int) (s' : Nat) : Int × Int :=
  if op = 0 then (if prodOk n (p10 (max s s' - s)) && prodOk n' (p10 (max s s' - s')) then norm (max s s') (prodV n (p10 (max s s' - s)) + prodV n' (p10 (max s s' - s'))) else (0, 7))
  else if op = 1 then (if prodOk n (p10 (max s s' - s)) && prodOk n' (p10 (max s s' - s')) then norm (max s s') (prodV n (p10 (max s s' - s)) - prodV n' (p10 (max s s' - s'))) else (0, 7))
  else if op = 2 then (if prodOk n n' then norm (s + s') (prodV n n') else (0, 7))
  else if op = 3 then (if prodOk (absI n) (p10 (6 - s)) && prodOk (absI n') (p10 (6 - s')) && (n' != 0) && quotOk (prodV (absI n) (p10 (6 - s))) (prodV (absI n') (p10 (6 - s'))) then norm 6 (overV n n' (prodV (absI n) (p10 (6 - s))) (prodV (absI n') (p10 (6 - s')))) else (0, 7))
  else (0, 7)

/-- What calc hands on. -/
def CalcRes (op n : Int) (s : Nat) (n' : Int) (s' : Nat) (e : Ending) : Prop :=
  ∃ (N S : Int) (fits : Bool), e = .returned (.tuple #[.agg #[.int .i64 N, .int .i64 S], .bool fits]) ∧
    (fits = true → ∃ t : Nat, S = t ∧ t ≤ 12 ∧ -9223372036854775808 ≤ N ∧ N ≤ 9223372036854775807 ∧ calcP op n s n' s' = norm t N) ∧ (fits = false → calcP op n s n' s' = (0, 7))

set_option maxHeartbeats 1000000 in
theorem calc_any (op n n' : Int) (s s' : Nat) (w : World) (h1 : -1000000000000000 ≤ n) (h2 : n ≤ 1000000000000000) (h1' : -1000000000000000 ≤ n') (h2' : n' ≤ 1000000000000000) (hs : s ≤ 6) (hs' : s' ≤ 6) :
    Calls Try.prog 78 #[.agg #[.int .i64 n, .int .i64 s], .int .i64 op, .agg #[.int .i64 n', .int .i64 s']] w fun e w' => CalcRes op n s n' s' e ∧ Below w.heap.size w w' := by
  by_cases o0 : op = 0
  · subst o0
    have sb := sum_bound n n' s s' h1 h2 h1' h2'
    have Pl := fun w => plus_any n n' s s' w h1 h2 h1' h2' hs hs'
    have C : ∀ (x : Int) (b : Bool), x = prodV n (p10 (max s s' - s)) + prodV n' (p10 (max s s' - s')) → b = (prodOk n (p10 (max s s' - s)) && prodOk n' (p10 (max s s' - s'))) → CalcRes 0 n s n' s' (.returned (.tuple #[.agg #[.int .i64 x, .int .i64 ((max s s' : Nat) : Int)], .bool b])) := by
      intro x b hx hb
      refine ⟨x, _, b, rfl, fun h => ⟨max s s', rfl, by omega, by omega, by omega, ?_⟩, fun h => ?_⟩
      · unfold calcP; rw [if_pos rfl, ← hb, if_pos h, ← hx]
      · unfold calcP; rw [if_pos rfl, ← hb, if_neg (by simp [h])]
    generalize prodV n (p10 (max s s' - s)) + prodV n' (p10 (max s s' - s')) = x at *
    generalize (prodOk n (p10 (max s s' - s)) && prodOk n' (p10 (max s s' - s'))) = b at *
    have C := C x b rfl rfl
    go_enter Try.func78, Try.ntmps78
    go_wp2_with fail
    refine (Pl _).mono ?_
    rintro e w1 ⟨rfl, hb1⟩
    have hR := (Own2.at ((w.alloc _).alloc _) (w.heap.size + 1 + 1) _ _ _ (by simp)).below hb1
    obtain ⟨r0, r1, r2, r3, r4⟩ := id hR
    have hw1 := bl_trans (bl_alloc (bl_alloc (bl_a _) _) _) hb1
    clear hb1 Pl
    go_wp2
    refine bodyPost_ret (v := .tuple #[.agg #[.int .i64 x, .int .i64 ((max s s' : Nat) : Int)], .bool b]) (by simp [results, Try.results78, go_sem, *]) rfl ⟨C, ?_⟩
    exact bl_set (bl_set hw1 (by dsimp only; omega) _) (by dsimp only; omega) _
  by_cases o1 : op = 1
  · subst o1
    have sb := sum_bound n (-n') s s' h1 h2 (by omega) (by omega)
    have Pl := fun w => plus_any n (-n') s s' w h1 h2 (by omega) (by omega) hs hs'
    simp only [prodV_negate, prodOk_negate] at sb Pl
    have C : ∀ (x : Int) (b : Bool), x = prodV n (p10 (max s s' - s)) + -prodV n' (p10 (max s s' - s')) → b = (prodOk n (p10 (max s s' - s)) && prodOk n' (p10 (max s s' - s'))) → CalcRes 1 n s n' s' (.returned (.tuple #[.agg #[.int .i64 x, .int .i64 ((max s s' : Nat) : Int)], .bool b])) := by
      intro x b hx hb
      refine ⟨x, _, b, rfl, fun h => ⟨max s s', rfl, by omega, by omega, by omega, ?_⟩, fun h => ?_⟩
      · unfold calcP; rw [if_neg (by decide), if_pos rfl, ← hb, if_pos h, Int.sub_eq_add_neg, ← hx]
      · unfold calcP; rw [if_neg (by decide), if_pos rfl, ← hb, if_neg (by simp [h])]
    generalize prodV n (p10 (max s s' - s)) + -prodV n' (p10 (max s s' - s')) = x at *
    generalize (prodOk n (p10 (max s s' - s)) && prodOk n' (p10 (max s s' - s'))) = b at *
    have C := C x b rfl rfl
    go_enter Try.func78, Try.ntmps78
    go_wp2_with fail
    refine (Pl _).mono ?_
    rintro e w1 ⟨rfl, hb1⟩
    have hR := (Own2.at ((w.alloc _).alloc _) (w.heap.size + 1 + 1) _ _ _ (by simp)).below hb1
    obtain ⟨r0, r1, r2, r3, r4⟩ := id hR
    have hw1 := bl_trans (bl_alloc (bl_alloc (bl_a _) _) _) hb1
    clear hb1 Pl
    go_wp2
    refine bodyPost_ret (v := .tuple #[.agg #[.int .i64 x, .int .i64 ((max s s' : Nat) : Int)], .bool b]) (by simp [results, Try.results78, go_sem, *]) rfl ⟨C, ?_⟩
    exact bl_set (bl_set hw1 (by dsimp only; omega) _) (by dsimp only; omega) _
  by_cases o2 : op = 2
  · subst o2
    have bd := prodV_bound n n'
    have Tm := fun w => times_any n n' s s' w h1 h2 h1' h2' (by omega) (by omega) (by omega) (by omega)
    have C : CalcRes 2 n s n' s' (.returned (.tuple #[.agg #[.int .i64 (prodV n n'), .int .i64 ((s : Int) + s')], .bool (prodOk n n')])) := by
      refine ⟨_, _, _, rfl, fun h => ⟨s + s', by omega, by omega, by omega, by omega, ?_⟩, fun h => ?_⟩
      · unfold calcP; rw [if_neg (by decide), if_neg (by decide), if_pos rfl, if_pos h]
      · unfold calcP; rw [if_neg (by decide), if_neg (by decide), if_pos rfl, if_neg (by simp [h])]
    generalize prodV n n' = x at *
    generalize prodOk n n' = b at *
    go_enter Try.func78, Try.ntmps78
    go_wp2_with fail
    refine (Tm _).mono ?_
    rintro e w1 ⟨rfl, hb1⟩
    have hR := (Own2.at ((w.alloc _).alloc _) (w.heap.size + 1 + 1) _ _ _ (by simp)).below hb1
    obtain ⟨r0, r1, r2, r3, r4⟩ := id hR
    have hw1 := bl_trans (bl_alloc (bl_alloc (bl_a _) _) _) hb1
    clear hb1 Tm
    go_wp2
    refine bodyPost_ret (v := .tuple #[.agg #[.int .i64 x, .int .i64 ((s : Int) + s')], .bool b]) (by simp [results, Try.results78, go_sem, *]) rfl ⟨C, ?_⟩
    exact bl_set (bl_set hw1 (by dsimp only; omega) _) (by dsimp only; omega) _
  by_cases o3 : op = 3
  · subst o3
    have Ov := fun w => over_any n n' s s' w h1 h2 h1' h2' hs hs'
    have p1 := p10_pos (6 - s')
    have C : ∀ (N S : Int) (fits : Bool), fits = (prodOk (absI n) (p10 (6 - s)) && prodOk (absI n') (p10 (6 - s')) && (n' != 0) && quotOk (prodV (absI n) (p10 (6 - s))) (prodV (absI n') (p10 (6 - s')))) →
        (fits = true → N = overV n n' (prodV (absI n) (p10 (6 - s))) (prodV (absI n') (p10 (6 - s'))) ∧ S = 6) → CalcRes 3 n s n' s' (.returned (.tuple #[.agg #[.int .i64 N, .int .i64 S], .bool fits])) := by
      intro N S fits hf hN
      refine ⟨N, S, fits, rfl, fun h => ?_, fun h => ?_⟩
      · obtain ⟨hN1, hS⟩ := hN h
        have hf' := hf.symm.trans h
        simp only [Bool.and_eq_true] at hf'
        obtain ⟨⟨⟨f1, f2⟩, f3⟩, f4⟩ := hf'
        have hn' : n' ≠ 0 := by simpa using f3
        have hx0 : 0 ≤ prodV (absI n) (p10 (6 - s)) := by
          unfold prodV; rw [if_pos f1]
          exact Int.mul_nonneg (absI_nonneg n) (by have := p10_pos (6 - s); omega)
        have hy1 : 1 ≤ prodV (absI n') (p10 (6 - s')) := by
          unfold prodV; rw [if_pos f2]
          have := Int.mul_pos (a := absI n') (b := p10 (6 - s')) (by have := absI_pos hn'; omega) (by omega)
          omega
        have qb := quotV_bound _ _ hx0 (prodV_bound (absI n) (p10 (6 - s))).2 hy1
        have hNb : -4611686018427387904 ≤ N ∧ N ≤ 4611686018427387904 := by
          rw [hN1]; unfold overV; split <;> omega
        refine ⟨6, hS, by omega, by omega, by omega, ?_⟩
        unfold calcP
        rw [if_neg (by decide), if_neg (by decide), if_neg (by decide), if_pos rfl, ← hf, if_pos h, ← hN1]
      · unfold calcP
        rw [if_neg (by decide), if_neg (by decide), if_neg (by decide), if_pos rfl, ← hf, if_neg (by simp [h])]
    go_enter Try.func78, Try.ntmps78
    go_wp2_with fail
    refine (Ov _).mono ?_
    rintro e w1 ⟨N, S, fits, rfl, hf, hN, hb1⟩
    have C := C N S fits hf hN
    have hR := (Own2.at ((w.alloc _).alloc _) (w.heap.size + 1 + 1) _ _ _ (by simp)).below hb1
    clear hf hN
    obtain ⟨r0, r1, r2, r3, r4⟩ := id hR
    have hw1 := bl_trans (bl_alloc (bl_alloc (bl_a _) _) _) hb1
    clear hb1 Ov
    go_wp2
    refine bodyPost_ret (v := .tuple #[.agg #[.int .i64 N, .int .i64 S], .bool fits]) (by simp [results, Try.results78, go_sem, *]) rfl ⟨C, ?_⟩
    exact bl_set (bl_set hw1 (by dsimp only; omega) _) (by dsimp only; omega) _
  · have C : CalcRes op n s n' s' (.returned (.tuple #[.agg #[.int .i64 0, .int .i64 0], .bool false])) :=
      ⟨0, 0, false, rfl, fun h => by simp at h, fun _ => by unfold calcP; rw [if_neg o0, if_neg o1, if_neg o2, if_neg o3]⟩
    have g0 : (op == 0) = false := by simp [o0]
    have g1 : (op == 1) = false := by simp [o1]
    have g2 : (op == 2) = false := by simp [o2]
    have g3 : (op == 3) = false := by simp [o3]
    clear o0 o1 o2 o3
    go_enter Try.func78, Try.ntmps78
    go_wp2
    refine bodyPost_ret (v := .tuple #[.agg #[.int .i64 0, .int .i64 0], .bool false]) (by simp [results, Try.results78, go_sem]) rfl ⟨C, ?_⟩
    exact bl_alloc (bl_alloc (bl_a _) _) _

/-- Is it a number that may be? -/
def isNum (k : Int) (bs : List Int) (n s : Int) : Bool := decide (k = 3) && termOk k bs n s
theorem isNum_bounds {k n s : Int} {bs : List Int} (h : isNum k bs n s = true) : k = 3 ∧ termOk 3 bs n s = true ∧ 0 ≤ s ∧ s ≤ 6 ∧ -1000000000000000 ≤ n ∧ n ≤ 1000000000000000 := by
  simp [isNum] at h
  obtain ⟨rfl, h⟩ := h
  refine ⟨rfl, h, ?_⟩
  simp [termOk, numOk] at h
  omega

theorem isNumber_any (k n s : Int) (a : Option Addr) (len cap : Nat) (bs : List Int) (w : World) (hB : Bs w a len bs) (h1 : -9223372036854775808 ≤ n) (h2 : n ≤ 9223372036854775807) (h3 : -9223372036854775808 ≤ s) (h4 : s ≤ 9223372036854775807) :
    Calls Try.prog 77 #[.agg #[.int .i64 k, .slice a len cap, .int .i64 n, .int .i64 s]] w fun e w' => e = .returned (.bool (isNum k bs n s)) ∧ Below w.heap.size w w' := by
  by_cases hk : k = 3
  · subst hk
    have e : isNum 3 bs n s = termOk 3 bs n s := by simp [isNum]
    rw [e]
    go_enter Try.func77, Try.ntmps77
    go_wp2_with fail
    refine (implTermOk_any 3 n s a len cap bs _ (hB.below (bl_a _)) h1 h2 h3 h4).mono ?_
    rintro e w1 ⟨rfl, hb1⟩
    go_wp2
    go_ret
    exact ⟨rfl, bl_trans (bl_a _) hb1⟩
  · have e : isNum k bs n s = false := by simp [isNum, hk]
    have hk' : (k == 3) = false := by simp [hk]
    rw [e]
    clear hk e
    go_enter Try.func77, Try.ntmps77
    go_wp2
    go_ret
    exact ⟨rfl, bl_a _⟩

/-- A number's parts as the answer. -/
def resV (p : Int × Int) : Value := .tuple #[.agg #[.int .i64 (tK p), .slice none 0 0, .int .i64 (tN p), .int .i64 (tS p)], .bool (numOk p.1 p.2)]
theorem resV_none : resV (0, 7) = .tuple #[.agg #[.int .i64 0, .slice none 0 0, .int .i64 0, .int .i64 0], .bool false] := by
  simp [resV, tK, tN, tS, numOk]
def calcQ (op k : Int) (bs : List Int) (n s : Int) (k' : Int) (bs' : List Int) (n' s' : Int) : Int × Int :=
  if isNum k bs n s && isNum k' bs' n' s' then calcP op n s.toNat n' s'.toNat else (0, 7)
end Go.Proofs.Ytidhcbjhggdncaa
