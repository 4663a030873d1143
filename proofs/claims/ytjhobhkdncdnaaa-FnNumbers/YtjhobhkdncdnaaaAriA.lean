/- Sums, products, quotients of numbers: plain facts. -/
import Derived.Test.YtjhobhkdncdnaaaCalD
import Derived.Test.YtjhobhkdncdnaaaOrdA
namespace Go.Proofs.Ytjhobhkdncdnaaa
open Go.RowKit Go.Deep

theorem p10_add (a b : Nat) : p10 (a + b) = p10 a * p10 b := by
  induction b with
  | zero => simp [p10]
  | succ b ih => rw [Nat.add_succ]; simp only [p10]; rw [ih, Int.mul_assoc]
theorem tm10 (a : Int) : a.tmod 10 = 0 ↔ a % 10 = 0 := by rw [← Int.dvd_iff_tmod_eq_zero, Int.dvd_iff_emod_eq_zero]
theorem td10 (a : Int) : (a * 10).tdiv 10 = a := Int.mul_tdiv_cancel a (by omega)
theorem norm_succ (k : Nat) (m : Int) : norm (k + 1) m = if m.tmod 10 = 0 then norm k (m.tdiv 10) else (m, (k : Int) + 1) := rfl
/-- What is trimmed is the same number, in its one form. -/
theorem norm_val : ∀ (k : Nat) (m : Int), ∃ e : Nat, (norm k m).2 = e ∧ e ≤ k ∧ (norm k m).1 * p10 (k - e) = m ∧ (e = 0 ∨ (norm k m).1.tmod 10 ≠ 0)
  | 0, m => ⟨0, by simp [norm], by omega, by simp [norm, p10], .inl rfl⟩
  | k + 1, m => by
    rw [norm_succ]
    by_cases h : m.tmod 10 = 0
    · rw [if_pos h]
      obtain ⟨e, h1, h2, h3, h4⟩ := norm_val k (m.tdiv 10)
      refine ⟨e, h1, by omega, ?_, h4⟩
      have hd := Int.mul_tdiv_add_tmod m 10
      rw [show k + 1 - e = (k - e) + 1 by omega]
      simp only [p10]
      rw [← Int.mul_assoc, h3]
      omega
    · rw [if_neg h]
      exact ⟨k + 1, by simp, by omega, by simp [p10], .inr h⟩
theorem norm_self (e : Nat) (x : Int) (h : e = 0 ∨ x.tmod 10 ≠ 0) : norm e x = (x, (e : Int)) := by
  by_cases h0 : 0 < e
  · exact norm_stop e x h0 (by simpa using h.resolve_left (by omega))
  · exact norm_zero e x h0
theorem norm_mul (e : Nat) (x : Int) : ∀ j : Nat, norm (e + j) (x * p10 j) = norm e x
  | 0 => by simp [p10]
  | j + 1 => by
    have h1 : x * p10 (j + 1) = x * p10 j * 10 := by simp only [p10]; rw [Int.mul_assoc]
    rw [Nat.add_succ, norm_succ, h1, if_pos (by rw [tm10]; omega), td10]
    exact norm_mul e x j

theorem prodOk_iff (a b : Int) : prodOk a b = decide (absI a * absI b ≤ 4611686018427387904) := by
  unfold prodOk
  by_cases hb : b = 0
  · subst hb; simp [absI]
  · have hp := absI_pos hb
    have : (absI a ≤ 4611686018427387904 / absI b) ↔ absI a * absI b ≤ 4611686018427387904 := Int.le_ediv_iff_mul_le (by omega)
    simp [hb, this]
theorem prodOk_comm (a b : Int) : prodOk a b = prodOk b a := by rw [prodOk_iff, prodOk_iff, Int.mul_comm]
theorem prodV_comm (a b : Int) : prodV a b = prodV b a := by unfold prodV; rw [prodOk_comm, Int.mul_comm]
theorem add_comm' (n m : Int) (s u : Nat) : calcP 0 n s m u = calcP 0 m u n s := by
  unfold calcP
  rw [if_pos rfl, if_pos rfl, Nat.max_comm u s, Bool.and_comm, Int.add_comm]
theorem mul_comm' (n m : Int) (s u : Nat) : calcP 2 n s m u = calcP 2 m u n s := by
  unfold calcP
  simp only [show ¬ (2 : Int) = 0 by omega, show ¬ (2 : Int) = 1 by omega, if_false, if_true]
  rw [prodOk_comm, prodV_comm, Nat.add_comm]
theorem numOk_out {n s : Int} (h : numOk n s = true) : 0 ≤ s ∧ s ≤ 6 ∧ -1000000000000000 ≤ n ∧ n ≤ 1000000000000000 ∧ (s = 0 ∨ n.tmod 10 ≠ 0) := by
  simp only [numOk, Bool.and_eq_true, Bool.or_eq_true, decide_eq_true_eq, beq_iff_eq, bne_iff_ne] at h
  omega
theorem numOk_none : numOk (0, 7).1 (0, 7).2 = false := by decide
/-- What was added is taken off again. -/
theorem sub_back (n m : Int) (s u : Nat) (h1 : numOk n s = true) (h2 : numOk m u = true) (ok : numOk (calcP 0 n s m u).1 (calcP 0 n s m u).2 = true) :
    calcP 1 (calcP 0 n s m u).1 (calcP 0 n s m u).2.toNat m u = (n, (s : Int)) := by
  obtain ⟨_, b2, b3, b4, b5⟩ := numOk_out h1
  obtain ⟨_, c2, c3, c4, c5⟩ := numOk_out h2
  have e0 : calcP 0 n s m u = if prodOk n (p10 (max s u - s)) && prodOk m (p10 (max s u - u)) then norm (max s u) (prodV n (p10 (max s u - s)) + prodV m (p10 (max s u - u))) else (0, 7) := by
    unfold calcP; rw [if_pos rfl]
  by_cases hp : (prodOk n (p10 (max s u - s)) && prodOk m (p10 (max s u - u))) = true
  · rw [if_pos hp] at e0
    rw [Bool.and_eq_true] at hp
    have v1 : prodV n (p10 (max s u - s)) = n * p10 (max s u - s) := by unfold prodV; rw [if_pos hp.1]
    have v2 : prodV m (p10 (max s u - u)) = m * p10 (max s u - u) := by unfold prodV; rw [if_pos hp.2]
    rw [v1, v2] at e0
    obtain ⟨_, d2, d3, d4, _⟩ := numOk_out ok
    have hn : norm s n = (n, (s : Int)) := norm_self s n (by rcases b5 with h | h; exact .inl (by omega); exact .inr h)
    rcases Nat.lt_trichotomy s u with hlt | heq | hgt
    · have hM : max s u = u := by omega
      rw [hM] at e0 hp v2
      have hmm : m.tmod 10 ≠ 0 := c5.resolve_left (by omega)
      have hmm' : m % 10 ≠ 0 := fun h => hmm ((tm10 m).2 h)
      obtain ⟨j, hj⟩ : ∃ j, u - s = j + 1 := ⟨u - s - 1, by omega⟩
      have hst : norm u (n * p10 (u - s) + m * p10 (u - u)) = (n * p10 (u - s) + m, (u : Int)) := by
        rw [Nat.sub_self, show p10 0 = 1 from rfl, Int.mul_one]
        refine norm_stop u _ (by omega) ?_
        have : ¬ (n * p10 (u - s) + m).tmod 10 = 0 := by
          rw [tm10]
          rw [hj]
          simp only [p10]
          rw [← Int.mul_assoc]
          omega
        simpa using this
      rw [hst] at e0
      rw [e0] at d3 d4 ⊢
      simp only [Int.toNat_natCast] at *
      unfold calcP
      rw [if_neg (by omega), if_pos rfl, Nat.max_self, Nat.sub_self, show p10 0 = 1 from rfl, prodOk_one _ d3 d4, prodOk_one m c3 c4, prodV_one _ d3 d4, prodV_one m c3 c4]
      simp only [Bool.and_self, if_true]
      rw [show n * p10 (u - s) + m - m = n * p10 (u - s) by omega]
      have := norm_mul s n (u - s)
      rw [show s + (u - s) = u by omega] at this
      rw [this, hn]
    · subst heq
      rw [Nat.max_self, Nat.sub_self, show p10 0 = 1 from rfl, Int.mul_one, Int.mul_one] at e0
      obtain ⟨e, f1, f2, f3, f4⟩ := norm_val s (n + m)
      rw [← e0] at f1 f3
      rw [f1, Int.toNat_natCast]
      generalize (calcP 0 n s m s).1 = x at *
      unfold calcP
      have hM : max e s = s := by omega
      have po : prodOk x (p10 (s - e)) = true := by
        rw [prodOk_iff, ← mul_abs, f3]
        have : absI (n + m) ≤ 4611686018427387904 := by unfold absI; split <;> omega
        simpa using this
      have pv : prodV x (p10 (s - e)) = n + m := by unfold prodV; rw [if_pos po, f3]
      rw [if_neg (by omega), if_pos rfl, hM, Nat.sub_self, show p10 0 = 1 from rfl, po, prodOk_one m c3 c4, pv, prodV_one m c3 c4]
      simp only [Bool.and_self, if_true]
      rw [show n + m - m = n by omega, hn]
    · have hM : max s u = s := by omega
      rw [hM] at e0 hp v2
      have hnm : n.tmod 10 ≠ 0 := b5.resolve_left (by omega)
      have hnm' : n % 10 ≠ 0 := fun h => hnm ((tm10 n).2 h)
      obtain ⟨j, hj⟩ : ∃ j, s - u = j + 1 := ⟨s - u - 1, by omega⟩
      have hst : norm s (n * p10 (s - s) + m * p10 (s - u)) = (n + m * p10 (s - u), (s : Int)) := by
        rw [Nat.sub_self, show p10 0 = 1 from rfl, Int.mul_one]
        refine norm_stop s _ (by omega) ?_
        have : ¬ (n + m * p10 (s - u)).tmod 10 = 0 := by
          rw [tm10]
          rw [hj]
          simp only [p10]
          rw [← Int.mul_assoc]
          omega
        simpa using this
      rw [hst] at e0
      rw [e0] at d3 d4 ⊢
      simp only [Int.toNat_natCast] at *
      unfold calcP
      rw [if_neg (by omega), if_pos rfl, hM, Nat.sub_self, show p10 0 = 1 from rfl, prodOk_one _ d3 d4, hp.2, prodV_one _ d3 d4, v2]
      simp only [Bool.and_self, if_true]
      rw [show n + m * p10 (s - u) - m * p10 (s - u) = n by omega, hn]
  · rw [if_neg hp] at e0
    rw [e0] at ok
    cases ok
theorem div_zero (n : Int) (s : Nat) : calcP 3 n s 0 0 = (0, 7) := by
  unfold calcP
  simp
theorem digits_le : ∀ (k : Nat) (n r y v : Int), 0 ≤ r → 1 ≤ y → digits k n r y = some v → v * y ≤ (n * y + r) * p10 k
  | 0, n, r, y, v => by
    intro h0 _ h
    simp only [digits, Option.some.injEq] at h
    subst h
    simp [p10]
    omega
  | k + 1, n, r, y, v => by
    intro h0 h1 h
    unfold digits at h
    split at h
    · cases h
    · have hm := Int.emod_nonneg (r * 10) (show y ≠ 0 by omega)
      have ih := digits_le k _ _ y v hm h1 h
      have hd := Int.mul_ediv_add_emod (r * 10) y
      have e : (n * 10 + r * 10 / y) * y + r * 10 % y = (n * y + r) * 10 := by
        rw [Int.add_mul, Int.add_mul, Int.mul_comm (r * 10 / y) y, Int.add_assoc, hd]
        rw [Int.mul_assoc, Int.mul_comm 10 y, ← Int.mul_assoc]
      rw [e] at ih
      simp only [p10]
      rw [Int.mul_comm (p10 k) 10, ← Int.mul_assoc]
      exact ih
theorem quot_le {x y : Int} (_hx : 0 ≤ x) (hy : 1 ≤ y) (ok : quotOk x y = true) : quotV x y * y ≤ x * p10 6 := by
  unfold quotOk at ok
  obtain ⟨v, hv⟩ := Option.isSome_iff_exists.1 ok
  have h := digits_le 6 _ _ y v (Int.emod_nonneg x (show y ≠ 0 by omega)) hy hv
  have e : x / y * y + x % y = x := by
    have := Int.mul_ediv_add_emod x y
    rw [Int.mul_comm] at this
    exact this
  rw [e] at h
  unfold quotV
  rw [hv]
  exact h
theorem cmpN_le {p n : Int} {e s : Nat} (he : e ≤ 6) (hs : s ≤ 6) (hp : 0 ≤ p) (_hn : 0 ≤ n) (h : p * p10 (6 - e) ≤ n * p10 (6 - s)) : cmpN p e n s ≤ 0 := by
  have e1 := scaled p e he
  have e2 := scaled n s hs
  have r1 := rest_bound p e he
  have r2 := rest_bound n s hs
  have q1 : 0 ≤ restOf p e := Int.mul_nonneg (Int.tmod_nonneg _ hp) (by have := p10_pos (6 - e); omega)
  rw [e1, e2] at h
  unfold cmpN orI
  unfold cmpI
  generalize p.tdiv (p10 e) = a at *
  generalize n.tdiv (p10 s) = b at *
  generalize restOf p e = c at *
  generalize restOf n s = d at *
  by_cases hab : a < b
  · rw [if_pos hab]; simp
  · have hba : ¬ b < a := by omega
    rw [if_neg hab, if_neg hba]
    simp only [if_true]
    have : ¬ d < c := by omega
    by_cases hcd : c < d
    · rw [if_pos hcd]; omega
    · rw [if_neg hcd, if_neg this]; omega
/-- A quotient times what it was by is at most what was divided. -/
theorem quot_back (n m : Int) (s u : Nat) (h1 : numOk n s = true) (h2 : numOk m u = true) (hn : 0 ≤ n) (hm : 1 ≤ m) (ok : numOk (calcP 3 n s m u).1 (calcP 3 n s m u).2 = true) :
    0 ≤ (calcP 3 n s m u).1 ∧ (numOk (calcP 2 (calcP 3 n s m u).1 (calcP 3 n s m u).2.toNat m u).1 (calcP 2 (calcP 3 n s m u).1 (calcP 3 n s m u).2.toNat m u).2 = true →
      cmpN (calcP 2 (calcP 3 n s m u).1 (calcP 3 n s m u).2.toNat m u).1 (calcP 2 (calcP 3 n s m u).1 (calcP 3 n s m u).2.toNat m u).2.toNat n s ≤ 0) := by
  obtain ⟨_, b2, b3, b4, b5⟩ := numOk_out h1
  obtain ⟨_, c2, c3, c4, c5⟩ := numOk_out h2
  have e0 : calcP 3 n s m u = if prodOk (absI n) (p10 (6 - s)) && prodOk (absI m) (p10 (6 - u)) && (m != 0) && quotOk (prodV (absI n) (p10 (6 - s))) (prodV (absI m) (p10 (6 - u))) then norm 6 (overV n m (prodV (absI n) (p10 (6 - s))) (prodV (absI m) (p10 (6 - u)))) else (0, 7) := by
    unfold calcP
    simp only [show ¬ (3 : Int) = 0 by omega, show ¬ (3 : Int) = 1 by omega, show ¬ (3 : Int) = 2 by omega, if_false, if_true]
  by_cases hc : (prodOk (absI n) (p10 (6 - s)) && prodOk (absI m) (p10 (6 - u)) && (m != 0) && quotOk (prodV (absI n) (p10 (6 - s))) (prodV (absI m) (p10 (6 - u)))) = true
  · rw [if_pos hc] at e0
    simp only [Bool.and_eq_true] at hc
    obtain ⟨⟨⟨k1, k2⟩, _⟩, k4⟩ := hc
    have v1 : prodV (absI n) (p10 (6 - s)) = n * p10 (6 - s) := by unfold prodV; rw [if_pos k1, absI_of hn]
    have v2 : prodV (absI m) (p10 (6 - u)) = m * p10 (6 - u) := by unfold prodV; rw [if_pos k2, absI_of (by omega)]
    have hov : ∀ x y, overV n m x y = quotV x y := by
      intro x y
      unfold overV
      simp [show ¬ n < 0 by omega, show ¬ m < 0 by omega]
    rw [v1, v2] at k4
    rw [v1, v2, hov] at e0
    have px := p10_pos (6 - s)
    have py := p10_pos (6 - u)
    have hx : 0 ≤ n * p10 (6 - s) := Int.mul_nonneg hn (by omega)
    have hy : 1 ≤ m * p10 (6 - u) := by
      have := Int.mul_le_mul hm py (by omega) (by omega)
      omega
    have ql := quot_le hx hy k4
    have q0 : 0 ≤ quotV (n * p10 (6 - s)) (m * p10 (6 - u)) := (quotV_bound _ _ hx (by have := prod_bound (show prodOk n (p10 (6 - s)) = true by rw [← absI_of hn]; exact k1); omega) hy).1
    obtain ⟨qs, f1, f2, f3, _⟩ := norm_val 6 (quotV (n * p10 (6 - s)) (m * p10 (6 - u)))
    rw [← e0] at f1 f3
    rw [f1, Int.toNat_natCast]
    generalize (calcP 3 n s m u).1 = q at *
    generalize quotV (n * p10 (6 - s)) (m * p10 (6 - u)) = q6 at *
    have pq := p10_pos (6 - qs)
    have hq : 0 ≤ q := by
      apply Classical.byContradiction
      intro hneg
      have : q * p10 (6 - qs) < 0 := Int.mul_neg_of_neg_of_pos (by omega) (by omega)
      omega
    refine ⟨hq, fun okp => ?_⟩
    have g0 : calcP 2 q qs m u = if prodOk q m then norm (qs + u) (prodV q m) else (0, 7) := by
      unfold calcP
      simp only [show ¬ (2 : Int) = 0 by omega, show ¬ (2 : Int) = 1 by omega, if_false, if_true]
    by_cases hqm : prodOk q m = true
    · have vq : prodV q m = q * m := by unfold prodV; rw [if_pos hqm]
      rw [if_pos hqm, vq] at g0
      obtain ⟨pe, i1, i2, i3, _⟩ := norm_val (qs + u) (q * m)
      rw [← g0] at i1 i3
      obtain ⟨_, j2, j3, j4, _⟩ := numOk_out okp
      rw [i1] at j2 ⊢
      rw [Int.toNat_natCast]
      generalize (calcP 2 q qs m u).1 = pn at *
      have hpn : 0 ≤ pn := by
        apply Classical.byContradiction
        intro hneg
        have h1 : pn * p10 (qs + u - pe) < 0 := Int.mul_neg_of_neg_of_pos (by omega) (by have := p10_pos (qs + u - pe); omega)
        have h2 : 0 ≤ q * m := Int.mul_nonneg hq (by omega)
        omega
      refine cmpN_le (by omega) (by omega) hpn hn ?_
      have key : pn * p10 (6 - pe) * p10 6 = q6 * (m * p10 (6 - u)) := by
        rw [← f3]
        have t1 : p10 (6 - pe) * p10 6 = p10 (qs + u - pe) * (p10 (6 - qs) * p10 (6 - u)) := by
          rw [← p10_add, ← p10_add, ← p10_add]
          congr 1
          omega
        rw [Int.mul_assoc, t1, ← Int.mul_assoc, i3]
        simp only [Int.mul_assoc, Int.mul_left_comm, Int.mul_comm]
      have h6 : pn * p10 (6 - pe) * p10 6 ≤ n * p10 (6 - s) * p10 6 := by rw [key]; exact ql
      exact Int.le_of_mul_le_mul_right h6 (by have := p10_pos 6; omega)
    · rw [if_neg hqm] at g0
      rw [g0] at okp
      cases okp
  · rw [if_neg hc] at e0
    rw [e0] at ok
    cases ok
end Go.Proofs.Ytjhobhkdncdnaaa
