/- The model's l1div, one case of the signs. -/
import Derived.Test.YtjhobhkdncdnaaeCalG
namespace Go.Proofs.Ytjhobhkdncdnaae
open Go.RowKit Go.Deep

set_option maxHeartbeats 4000000 in
theorem l1div_pp (k k' n n' : Int) (s s' : Nat) (a a' : Option Addr) (len cap len' cap' : Nat) (w : World) (h1 : -1000000000000000 ≤ n) (h2 : n ≤ 1000000000000000) (h1' : -1000000000000000 ≤ n') (h2' : n' ≤ 1000000000000000) (hs : s ≤ 6) (hs' : s' ≤ 6) (hn' : n' ≠ 0) (m1 : ¬ n < 0) (m2 : ¬ n' < 0) :
    Calls Try.prog 50 #[.agg #[.int .i64 k, .slice a len cap, .int .i64 n, .int .i64 s], .agg #[.int .i64 k', .slice a' len' cap', .int .i64 n', .int .i64 s']] w fun e w' => e = .returned (resV (divP n s n' s')) ∧ Below w.heap.size w w' := by
  have a0 := absI_nonneg n
  have a0' := absI_pos hn'
  have a1 : absI n ≤ 1000000000000000 := by unfold absI; split <;> omega
  have a1' : absI n' ≤ 1000000000000000 := by unfold absI; split <;> omega
  have p1 := p10_pos (6 - s)
  have p2 := p10_pos (6 - s')
  have q1 : p10 (6 - s) ≤ 1000000 := p10_le (by omega)
  have q2 : p10 (6 - s') ≤ 1000000 := p10_le (by omega)
  have hc : ((6 - s : Nat) : Int) = 6 - (s : Int) := by omega
  have hc' : ((6 - s' : Nat) : Int) = 6 - (s' : Int) := by omega
  have T1 := fun w => l1times_any (absI n) (p10 (6 - s)) w (by omega) (by omega) (by omega) (by omega)
  have T2 := fun w => l1times_any (absI n') (p10 (6 - s')) w (by omega) (by omega) (by omega) (by omega)
  have P1 := fun w => l1pow_any (6 - s) w (by omega)
  have P2 := fun w => l1pow_any (6 - s') w (by omega)
  rw [hc] at P1
  rw [hc'] at P2
  have v1 := prodV_bound (absI n) (p10 (6 - s))
  have v2 := prodV_bound (absI n') (p10 (6 - s'))
  have x0 : 0 ≤ prodV (absI n) (p10 (6 - s)) := by
    unfold prodV; split
    · exact Int.mul_nonneg a0 (by omega)
    · omega
  have y1 : prodOk (absI n') (p10 (6 - s')) = true → 1 ≤ prodV (absI n') (p10 (6 - s')) := by
    intro h
    unfold prodV; rw [if_pos h]
    have := Int.mul_pos (a := absI n') (b := p10 (6 - s')) (by omega) (by omega)
    omega
  have HP : Hid (divP n s n' s' = if prodOk (absI n) (p10 (6 - s)) && prodOk (absI n') (p10 (6 - s')) && quotOk (prodV (absI n) (p10 (6 - s))) (prodV (absI n') (p10 (6 - s'))) then norm 6 (overV n n' (prodV (absI n) (p10 (6 - s))) (prodV (absI n') (p10 (6 - s')))) else (0, 7)) := rfl
  clear hc hc'
  generalize divP n s n' s' = P0 at *
  generalize prodV (absI n) (p10 (6 - s)) = x at *
  generalize prodV (absI n') (p10 (6 - s')) = y at *
  generalize prodOk (absI n) (p10 (6 - s)) = xo at *
  generalize prodOk (absI n') (p10 (6 - s')) = yo at *
  generalize p10 (6 - s) = px at *
  generalize p10 (6 - s') = py at *
  clear a0 a0' a1 a1' p1 p2 q1 q2
  rw [absI_of (by omega)] at T1
  rw [absI_of (by omega)] at T2
  have hd1 : decide (n < 0) = false := by simpa using m1
  have hd2 : decide (n' < 0) = false := by simpa using m2
  go_enter Try.func50, Try.ntmps50
  go_wp2_with fail
  go_quiet (fail)
  go_wp2_with fail
  refine (P1 _).mono ?_
  rintro e w1 ⟨rfl, rfl⟩
  go_wp2_with fail
  refine (T1 _).mono ?_
  rintro e w2 ⟨rfl, rfl⟩
  go_wp2_with fail
  refine (P2 _).mono ?_
  rintro e w3 ⟨rfl, rfl⟩
  go_wp2_with fail
  refine (T2 _).mono ?_
  rintro e w4 ⟨rfl, rfl⟩
  clear P1 P2 T1 T2
  have hR := (Own4.at ((w.alloc (.cells #[.int .i64 k, .slice a len cap, .int .i64 n, .int .i64 s] 27)).alloc (.cells #[.int .i64 k', .slice a' len' cap', .int .i64 n', .int .i64 s'] 27)) (w.heap.size + 1 + 1) (.int .i64 0) (.slice none 0 0) (.int .i64 0) (.int .i64 0) 27 (by simp)).below (below_drewN (Below.refl _ _) nq)
  have hw := below_drewN (bl_alloc (bl_alloc (bl_a (w := w) (.cells #[.int .i64 k, .slice a len cap, .int .i64 n, .int .i64 s] 27)) (.cells #[.int .i64 k', .slice a' len' cap', .int .i64 n', .int .i64 s'] 27)) (.cells #[.int .i64 0, .slice none 0 0, .int .i64 0, .int .i64 0] 27)) nq
  generalize World.drewN _ nq = w5 at hR hw ⊢
  obtain ⟨⟨r0, r1, r2, r3, r4⟩, f0, f1, f2, f3⟩ := id hR
  cases xo
  · have EC : Hid (resV P0 = .tuple #[.agg #[.int .i64 0, .slice none 0 0, .int .i64 0, .int .i64 0], .bool false]) := by
      show _ = _
      rw [HP.out]
      exact resV_none
    clear y1
    go_wp2
    refine bodyPost_ret (v := .tuple #[.agg #[.int .i64 0, .slice none 0 0, .int .i64 0, .int .i64 0], .bool false]) (by simp [results, Try.results50, go_sem, *]) rfl ⟨by rw [EC.out], ?_⟩
    repeat (first | with_reducible exact hw | with_reducible refine bl_set ?_ (by dsimp only; omega) _)
  cases yo
  · have EC : Hid (resV P0 = .tuple #[.agg #[.int .i64 0, .slice none 0 0, .int .i64 0, .int .i64 0], .bool false]) := by
      show _ = _
      rw [HP.out]
      exact resV_none
    clear y1
    go_wp2
    refine bodyPost_ret (v := .tuple #[.agg #[.int .i64 0, .slice none 0 0, .int .i64 0, .int .i64 0], .bool false]) (by simp [results, Try.results50, go_sem, *]) rfl ⟨by rw [EC.out], ?_⟩
    repeat (first | with_reducible exact hw | with_reducible refine bl_set ?_ (by dsimp only; omega) _)
  have hy := y1 rfl
  clear y1
  go_wp2_with fail
  go_loop [11, 12, 13] (fun a b c => ∃ (j : Nat) (m r : Int), j ≤ 6 ∧ 0 ≤ m ∧ m ≤ 4611686018427387904 ∧ 0 ≤ r ∧ r < y ∧ digits (6 - j) m r y = digits 6 (x / y) (x % y) y ∧ a = .int .i64 m ∧ b = .int .i64 r ∧ c = .int .i64 j)
    (fun _ _ c => 6 - (intOf c).toNat)
  case atStart => exact ⟨0, x / y, x % y, by omega, Int.ediv_nonneg x0 (by omega), Int.le_trans (Int.ediv_le_self _ x0) v1.2, Int.emod_nonneg _ (by omega), Int.emod_lt_of_pos _ (by omega), rfl, rfl, rfl, rfl⟩
  case round =>
    obtain ⟨j, m, r, hj, m0, m3, e0, e1, hd, rfl, rfl, rfl⟩ := hrel
    have HD : Hid (digits (6 - j) m r y = digits 6 (x / y) (x % y) y) := hd
    have d1 : 0 ≤ r * 10 / y := Int.ediv_nonneg (by omega) (by omega)
    have d2 : r * 10 / y ≤ 9 := by
      have : r * 10 / y < 10 := Int.ediv_lt_of_lt_mul (by omega) (by omega)
      omega
    have d3 : 0 ≤ r * 10 % y := Int.emod_nonneg _ (by omega)
    have d4 : r * 10 % y < y := Int.emod_lt_of_pos _ (by omega)
    clear hd
    by_cases hj6 : j < 6
    · have hs1 : digits (6 - j) m r y = if 1000000000000000 < m ∨ 461168601842738790 < r then none else digits (6 - (j + 1)) (m * 10 + r * 10 / y) (r * 10 % y) y := by
        rw [show 6 - j = (6 - (j + 1)) + 1 by omega]
        rfl
      have HS : Hid (digits (6 - j) m r y = if 1000000000000000 < m ∨ 461168601842738790 < r then none else digits (6 - (j + 1)) (m * 10 + r * 10 / y) (r * 10 % y) y) := hs1
      clear hs1
      by_cases hm : 1000000000000000 < m
      · have EQ : Hid (quotOk x y = false) := by
          have e := HD.out
          rw [HS.out, if_pos (Or.inl hm)] at e
          show quotOk x y = false
          simp [quotOk, ← e]
        have EC : Hid (resV P0 = .tuple #[.agg #[.int .i64 0, .slice none 0 0, .int .i64 0, .int .i64 0], .bool false]) := by
          show _ = _
          rw [HP.out, EQ.out]
          exact resV_none
        go_wp2
        refine bodyPost_ret (v := .tuple #[.agg #[.int .i64 0, .slice none 0 0, .int .i64 0, .int .i64 0], .bool false]) (by simp [results, Try.results50, go_sem, *]) rfl ⟨by rw [EC.out], ?_⟩
        repeat (first | with_reducible exact hw | with_reducible refine bl_set ?_ (by dsimp only; omega) _)
      · by_cases hr : 461168601842738790 < r
        · have hd : decide (461168601842738790 < r) = true := by simpa using hr
          have EQ : Hid (quotOk x y = false) := by
            have e := HD.out
            rw [HS.out, if_pos (Or.inr hr)] at e
            show quotOk x y = false
            simp [quotOk, ← e]
          have EC : Hid (resV P0 = .tuple #[.agg #[.int .i64 0, .slice none 0 0, .int .i64 0, .int .i64 0], .bool false]) := by
            show _ = _
            rw [HP.out, EQ.out]
            exact resV_none
          go_wp2
          refine bodyPost_ret (v := .tuple #[.agg #[.int .i64 0, .slice none 0 0, .int .i64 0, .int .i64 0], .bool false]) (by simp [results, Try.results50, go_sem, *]) rfl ⟨by rw [EC.out], ?_⟩
          repeat (first | with_reducible exact hw | with_reducible refine bl_set ?_ (by dsimp only; omega) _)
        · have hd : decide (461168601842738790 < r) = false := by simpa using hr
          have hh := HS.out
          rw [if_neg (by omega)] at hh
          have HH : Hid (digits (6 - j) m r y = digits (6 - (j + 1)) (m * 10 + r * 10 / y) (r * 10 % y) y) := hh
          clear hh
          go_wp2
          go_round
          case rel => exact ⟨j + 1, m * 10 + r * 10 / y, r * 10 % y, by omega, by omega, by omega, d3, d4, HH.out.symm.trans HD.out, rfl, rfl, by go_num⟩
          case measure => simp [intOf]; omega
    · obtain rfl : j = 6 := by omega
      have e : some m = digits 6 (x / y) (x % y) y := HD.out
      have EV : overV n n' x y = m := by
        have q : quotV x y = m := by simp [quotV, ← e]
        unfold overV
        rw [q, hd1, hd2]
        rfl
      have EQ : quotOk x y = true := by simp [quotOk, ← e]
      have Nm := fun w => specNum_any (m) 6 w (by omega) (by omega)
      have en : numP (m) 6 = norm 6 (m) := rfl
      rw [en] at Nm
      have EF : Hid (resV P0 = .tuple #[.agg #[.int .i64 (tK (norm 6 (m))), .slice none 0 0, .int .i64 (tN (norm 6 (m))), .int .i64 (tS (norm 6 (m)))], .bool (numOk (norm 6 (m)).1 (norm 6 (m)).2)]) := by
        show _ = _
        rw [HP.out, EQ, EV]
        rfl
      generalize tK (norm 6 (m)) = z1 at *
      generalize tN (norm 6 (m)) = z2 at *
      generalize tS (norm 6 (m)) = z3 at *
      generalize numOk (norm 6 (m)).1 (norm 6 (m)).2 = z4 at *
      clear HD e EV EQ en d1 d2 d3 d4
      go_wp2_with fail
      refine (Nm _).mono ?_
      rintro e w6 ⟨rfl, hb6⟩
      have hR6 := hR.below hb6
      have hw6 := bl_trans hw hb6
      clear hb6 Nm r0 r1 r2 r3 r4 f0 f1 f2 f3
      obtain ⟨⟨r0, r1, r2, r3, r4⟩, f0, f1, f2, f3⟩ := id hR6
      go_wp2
      refine bodyPost_ret (v := .tuple #[.agg #[.int .i64 z1, .slice none 0 0, .int .i64 z2, .int .i64 z3], .bool z4]) (by simp [results, Try.results50, go_sem, *]) rfl ⟨by rw [EF.out], ?_⟩
      repeat (first | with_reducible exact hw6 | with_reducible refine bl_set ?_ (by dsimp only; omega) _)
end Go.Proofs.Ytjhobhkdncdnaae
