/- The contracts of the program's quotients, of calc and of Calc. -/
import Derived.Test.YtjhobhkdncdnaaaCalB
namespace Go.Proofs.Ytjhobhkdncdnaaa
open Go.RowKit Go.Deep

/-- Six digits more, one after the other; nothing where what is there is too great ahead of one. -/
def digits : Nat → Int → Int → Int → Option Int
  | 0, n, _, _ => some n
  | k + 1, n, r, y => if 1000000000000000 < n ∨ 461168601842738790 < r then none else digits k (n * 10 + r * 10 / y) (r * 10 % y) y
def quotV (x y : Int) : Int := (digits 6 (x / y) (x % y) y).getD 0
def quotOk (x y : Int) : Bool := (digits 6 (x / y) (x % y) y).isSome

theorem quotient_any (x y : Int) (w : World) (h0 : 0 ≤ x) (h1 : x ≤ 4611686018427387904) (h2 : 1 ≤ y) (h3 : y ≤ 4611686018427387904) :
    Calls Try.prog 54 #[.int .i64 x, .int .i64 y] w fun e w' => e = .returned (.tuple #[.int .i64 (quotV x y), .bool (quotOk x y)]) ∧ ∃ q, w' = w.drewN q := by
  go_enter Try.func54, Try.ntmps54
  go_wp2_with fail
  go_quiet (fail)
  go_wp2_with fail
  go_loop [6, 7, 14] (fun a b c => ∃ (j : Nat) (m r : Int), j ≤ 6 ∧ 0 ≤ m ∧ m ≤ 4611686018427387904 ∧ 0 ≤ r ∧ r < y ∧ digits (6 - j) m r y = digits 6 (x / y) (x % y) y ∧ a = .int .i64 m ∧ b = .int .i64 r ∧ c = .int .i64 j)
    (fun _ _ c => 6 - (intOf c).toNat)
  case atStart => exact ⟨0, x / y, x % y, by omega, Int.ediv_nonneg h0 (by omega), Int.le_trans (Int.ediv_le_self _ h0) h1, Int.emod_nonneg _ (by omega), Int.emod_lt_of_pos _ (by omega), rfl, rfl, rfl, rfl⟩
  case round =>
    obtain ⟨j, m, r, hj, m0, m1, r0, r1, hd, rfl, rfl, rfl⟩ := hrel
    have HD : Hid (digits (6 - j) m r y = digits 6 (x / y) (x % y) y) := hd
    have d1 : 0 ≤ r * 10 / y := Int.ediv_nonneg (by omega) (by omega)
    have d2 : r * 10 / y ≤ 9 := by
      have : r * 10 / y < 10 := Int.ediv_lt_of_lt_mul (by omega) (by omega)
      omega
    have d3 : 0 ≤ r * 10 % y := Int.emod_nonneg _ (by omega)
    have d4 : r * 10 % y < y := Int.emod_lt_of_pos _ (by omega)
    clear hd
    by_cases hj6 : j < 6
    · have hs : digits (6 - j) m r y = if 1000000000000000 < m ∨ 461168601842738790 < r then none else digits (6 - (j + 1)) (m * 10 + r * 10 / y) (r * 10 % y) y := by
        rw [show 6 - j = (6 - (j + 1)) + 1 by omega]
        rfl
      have HS : Hid (digits (6 - j) m r y = if 1000000000000000 < m ∨ 461168601842738790 < r then none else digits (6 - (j + 1)) (m * 10 + r * 10 / y) (r * 10 % y) y) := hs
      clear hs
      by_cases hm : 1000000000000000 < m
      · go_wp2
        go_ret2
        have e := HD.out
        rw [HS.out, if_pos (Or.inl hm)] at e
        exact ⟨by simp [quotV, quotOk, ← e], _, rfl⟩
      · by_cases hr : 461168601842738790 < r
        · have hd : decide (461168601842738790 < r) = true := by simpa using hr
          go_wp2
          go_ret2
          have e := HD.out
          rw [HS.out, if_pos (Or.inr hr)] at e
          exact ⟨by simp [quotV, quotOk, ← e], _, rfl⟩
        · have hd : decide (461168601842738790 < r) = false := by simpa using hr
          have hh := HS.out
          rw [if_neg (by omega)] at hh
          have HH : Hid (digits (6 - j) m r y = digits (6 - (j + 1)) (m * 10 + r * 10 / y) (r * 10 % y) y) := hh
          clear hh
          go_wp2
          go_round
          case rel => exact ⟨j + 1, m * 10 + r * 10 / y, r * 10 % y, by omega, by omega, by omega, d3, d4, HH.out.symm.trans HD.out, rfl, rfl, by go_num⟩
          case measure => simp [intOf]; omega
    · go_wp2
      go_ret2
      obtain rfl : j = 6 := by omega
      have e : some m = digits 6 (x / y) (x % y) y := HD.out
      exact ⟨by simp [quotV, quotOk, ← e], _, rfl⟩

theorem digits_bound : ∀ (k : Nat) (n r y v : Int), 0 ≤ n → n ≤ 4611686018427387904 → 0 ≤ r → r < y → digits k n r y = some v → 0 ≤ v ∧ v ≤ 4611686018427387904
  | 0, n, r, y, v, h1, h2, _, _, h => by
    simp [digits] at h
    omega
  | k + 1, n, r, y, v, h1, h2, h3, h4, h => by
    unfold digits at h
    split at h
    · simp at h
    · have d1 : 0 ≤ r * 10 / y := Int.ediv_nonneg (by omega) (by omega)
      have d2 : r * 10 / y < 10 := Int.ediv_lt_of_lt_mul (by omega) (by omega)
      exact digits_bound k _ _ y v (by omega) (by omega) (Int.emod_nonneg _ (by omega)) (Int.emod_lt_of_pos _ (by omega)) h
theorem quotV_bound (x y : Int) (h0 : 0 ≤ x) (h1 : x ≤ 4611686018427387904) (h2 : 1 ≤ y) : 0 ≤ quotV x y ∧ quotV x y ≤ 4611686018427387904 := by
  unfold quotV
  cases h : digits 6 (x / y) (x % y) y with
  | none => simp
  | some v =>
    have := digits_bound 6 (x / y) (x % y) y v (Int.ediv_nonneg h0 (by omega)) (Int.le_trans (Int.ediv_le_self _ h0) h1) (Int.emod_nonneg _ (by omega)) (Int.emod_lt_of_pos _ (by omega)) h
    simpa using this

/-- The quotient's N: with the sign. -/
def overV (n n' : Int) (x y : Int) : Int := if (decide (n < 0)) != (decide (n' < 0)) then -quotV x y else quotV x y

set_option maxHeartbeats 1000000 in
theorem over_any (n n' : Int) (s s' : Nat) (w : World) (h1 : -1000000000000000 ≤ n) (h2 : n ≤ 1000000000000000) (h1' : -1000000000000000 ≤ n') (h2' : n' ≤ 1000000000000000) (hs : s ≤ 6) (hs' : s' ≤ 6) :
    Calls Try.prog 40 #[.agg #[.int .i64 n, .int .i64 s], .agg #[.int .i64 n', .int .i64 s']] w fun e w' =>
      ∃ N S fits, e = .returned (.tuple #[.agg #[.int .i64 N, .int .i64 S], .bool fits]) ∧
        fits = (prodOk (absI n) (p10 (6 - s)) && prodOk (absI n') (p10 (6 - s')) && (n' != 0) && quotOk (prodV (absI n) (p10 (6 - s))) (prodV (absI n') (p10 (6 - s')))) ∧
        (fits = true → N = overV n n' (prodV (absI n) (p10 (6 - s))) (prodV (absI n') (p10 (6 - s'))) ∧ S = 6) ∧ Below w.heap.size w w' := by
  have a0 := absI_nonneg n
  have a0' := absI_nonneg n'
  have a1 : absI n ≤ 1000000000000000 := by unfold absI; split <;> omega
  have a1' : absI n' ≤ 1000000000000000 := by unfold absI; split <;> omega
  have U1 := fun w => unsigned_any n s w h1 h2
  have U2 := fun w => unsigned_any n' s' w h1' h2'
  have R1 := fun w => raised_any (absI n) s 6 w (by omega) a1 hs (by omega)
  have R2 := fun w => raised_any (absI n') s' 6 w (by omega) a1' hs' (by omega)
  have v1 := prodV_bound (absI n) (p10 (6 - s))
  have v2 := prodV_bound (absI n') (p10 (6 - s'))
  have p1 := p10_pos (6 - s)
  have p2 := p10_pos (6 - s')
  have x0 : 0 ≤ prodV (absI n) (p10 (6 - s)) := by
    unfold prodV; split
    · exact Int.mul_nonneg a0 (by omega)
    · omega
  have y0 : 0 ≤ prodV (absI n') (p10 (6 - s')) := by
    unfold prodV; split
    · exact Int.mul_nonneg a0' (by omega)
    · omega
  have yz : prodOk (absI n') (p10 (6 - s')) = true → (prodV (absI n') (p10 (6 - s')) = 0 ↔ n' = 0) := by
    intro h
    unfold prodV
    rw [if_pos h]
    constructor
    · intro e
      rcases Int.mul_eq_zero.1 e with e | e
      · unfold absI at e; split at e <;> omega
      · omega
    · intro e; subst e; simp [absI_of (n := 0) (by omega)]
  generalize prodV (absI n) (p10 (6 - s)) = x at *
  generalize prodV (absI n') (p10 (6 - s')) = y at *
  generalize prodOk (absI n) (p10 (6 - s)) = xo at *
  generalize prodOk (absI n') (p10 (6 - s')) = yo at *
  generalize absI n = an at *
  generalize absI n' = an' at *
  go_enter Try.func40, Try.ntmps40
  go_wp2_with fail
  refine (U1 _).mono ?_
  rintro e w1 ⟨rfl, q1, o1, o2, rfl⟩
  go_wp2_with fail
  refine (R1 _).mono ?_
  rintro e w2 ⟨rfl, q2, o3, rfl⟩
  go_wp2_with fail
  refine (U2 _).mono ?_
  rintro e w3 ⟨rfl, q3, o4, o5, rfl⟩
  go_wp2_with fail
  refine (R2 _).mono ?_
  rintro e w4 ⟨rfl, q4, o6, rfl⟩
  clear U1 U2 R1 R2
  cases xo
  · go_wp2
    simp [bodyPost, results, Try.results40, go_sem]
    repeat (first | with_reducible exact Below.refl _ _ | with_reducible refine bl_set ?_ (by dsimp only; omega) _ | with_reducible apply bl_alloc | with_reducible apply Below.drew | with_reducible apply below_drewN)
  cases yo
  · go_wp2
    simp [bodyPost, results, Try.results40, go_sem]
    repeat (first | with_reducible exact Below.refl _ _ | with_reducible refine bl_set ?_ (by dsimp only; omega) _ | with_reducible apply bl_alloc | with_reducible apply Below.drew | with_reducible apply below_drewN)
  have yz' := yz rfl
  clear yz
  by_cases hy : y = 0
  · have hn' : n' = 0 := yz'.1 hy
    have HN : Hid (n' = 0) := hn'
    subst hy
    clear hn' yz'
    go_wp2
    simp [bodyPost, results, Try.results40, go_sem, HN.out]
    repeat (first | with_reducible exact Below.refl _ _ | with_reducible refine bl_set ?_ (by dsimp only; omega) _ | with_reducible apply bl_alloc | with_reducible apply Below.drew | with_reducible apply below_drewN)
  · have hn' : n' ≠ 0 := fun h => hy (yz'.2 h)
    have HN : Hid (n' ≠ 0) := hn'
    have hy' : (y == 0) = false := by simp [hy]
    have Q := fun w => quotient_any x y w x0 v1.2 (by omega) v2.2
    have qb := quotV_bound x y x0 v1.2 (by omega)
    clear yz'
    by_cases hsg : (!(decide (n < 0) == decide (n' < 0))) = true
    · have ho : Hid (overV n n' x y = -quotV x y) := by
        show _ = _
        unfold overV
        rw [if_pos (by exact hsg)]
      clear hy hn'
      go_wp2_with fail
      refine (Q _).mono ?_
      rintro e w5 ⟨rfl, q5, rfl⟩
      clear Q
      go_wp2
      refine bodyPost_ret (v := .tuple #[.agg #[.int .i64 (-quotV x y), .int .i64 6], .bool (quotOk x y)]) (by simp [results, Try.results40, go_sem]) rfl ⟨-quotV x y, 6, quotOk x y, rfl, by simp [HN.out], fun _ => ⟨ho.out.symm, rfl⟩, ?_⟩
      repeat (first | with_reducible exact Below.refl _ _ | with_reducible refine bl_set ?_ (by dsimp only; omega) _ | with_reducible apply bl_alloc | with_reducible apply Below.drew | with_reducible apply below_drewN)
    · have hsg' : (!(decide (n < 0) == decide (n' < 0))) = false := by simpa using hsg
      have ho : Hid (overV n n' x y = quotV x y) := by
        show _ = _
        unfold overV
        rw [if_neg (by exact hsg)]
      clear hy hn' hsg
      go_wp2_with fail
      refine (Q _).mono ?_
      rintro e w5 ⟨rfl, q5, rfl⟩
      clear Q
      go_wp2
      refine bodyPost_ret (v := .tuple #[.agg #[.int .i64 (quotV x y), .int .i64 6], .bool (quotOk x y)]) (by simp [results, Try.results40, go_sem]) rfl ⟨quotV x y, 6, quotOk x y, rfl, by simp [HN.out], fun _ => ⟨ho.out.symm, rfl⟩, ?_⟩
      repeat (first | with_reducible exact Below.refl _ _ | with_reducible refine bl_set ?_ (by dsimp only; omega) _ | with_reducible apply bl_alloc | with_reducible apply Below.drew | with_reducible apply below_drewN)
end Go.Proofs.Ytjhobhkdncdnaaa
