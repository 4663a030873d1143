/- The contracts of the program's comparing of numbers. -/
import Derived.Test.YtmpiadlmkeimdaaDoorCmpA
namespace Go.Proofs.YtmpiadlmkeimdaaDoor
open Go.RowKit Go.Deep

/-- What is behind the point, as six digits. -/
def restOf (n : Int) (s : Nat) : Int := n.tmod (p10 s) * p10 (6 - s)
theorem tmod_bound (n q : Int) (hq : 1 ≤ q) : -q < n.tmod q ∧ n.tmod q < q := by
  have h1 := Int.tmod_lt_of_pos n (b := q) (by omega)
  have h2 : -q < n.tmod q := by
    have := Int.lt_tmod_of_pos n (b := q) (by omega)
    omega
  exact ⟨h2, h1⟩
theorem rest_bound (n : Int) (s : Nat) (hs : s ≤ 6) : -1000000 < restOf n s ∧ restOf n s < 1000000 := by
  have h : s = 0 ∨ s = 1 ∨ s = 2 ∨ s = 3 ∨ s = 4 ∨ s = 5 ∨ s = 6 := by omega
  rcases h with rfl | rfl | rfl | rfl | rfl | rfl | rfl
  · have t := tmod_bound n 1 (by omega); simp [restOf, p10]
  · have t := tmod_bound n 10 (by omega); simp [restOf, p10]; omega
  · have t := tmod_bound n 100 (by omega); simp [restOf, p10]; omega
  · have t := tmod_bound n 1000 (by omega); simp [restOf, p10]; omega
  · have t := tmod_bound n 10000 (by omega); simp [restOf, p10]; omega
  · have t := tmod_bound n 100000 (by omega); simp [restOf, p10]; omega
  · have t := tmod_bound n 1000000 (by omega); simp [restOf, p10]; omega

theorem parts_any (n : Int) (s : Nat) (w : World) (hs : s ≤ 6) (h1 : -9223372036854775808 ≤ n) (h2 : n ≤ 9223372036854775807) :
    Calls Tryd.prog 98 #[.agg #[.int .i64 n, .int .i64 s]] w fun e w' =>
      e = .returned (.tuple #[.int .i64 (n.tdiv (p10 s)), .int .i64 (restOf n s)]) ∧ ∃ q o1, w' = (w.alloc o1).drewN q := by
  have b1 := p10_pos s
  have b2 := p10_le hs
  have b3 := p10_pos (6 - s)
  have b4 : p10 (6 - s) ≤ 1000000 := p10_le (by omega)
  have r := rest_bound n s hs
  have t := tmod_bound n (p10 s) b1
  have hc : ((6 - s : Nat) : Int) = 6 - (s : Int) := by omega
  have T := fun w => tenTo_any (6 - s) w (by omega)
  rw [hc] at T
  unfold restOf at r ⊢
  have hw : wrap64 (n.tmod (p10 s) * p10 (6 - s)) = n.tmod (p10 s) * p10 (6 - s) := IntWalk.wrap64_in _ ⟨by omega, by omega⟩
  go_enter Tryd.func98, Tryd.ntmps98
  go_wp2_with (go_at_call 44; refine (tenTo_any s _ hs).mono ?_; rintro e w1 ⟨rfl, rfl⟩)
  go_quiet ((go_at_call 44; refine Calls.quiet_of_same (T _)))
  go_wp2
  go_ret2
  exact ⟨rfl, _, _, rfl⟩

/-- Two numbers: what is whole first, then the rest. -/
def cmpN (n : Int) (s : Nat) (n' : Int) (s' : Nat) : Int := orI (cmpI (n.tdiv (p10 s)) (n'.tdiv (p10 s'))) (cmpI (restOf n s) (restOf n' s'))

theorem decCompare_any (n n' : Int) (s s' : Nat) (w : World) (hs : s ≤ 6) (h1 : -9223372036854775808 ≤ n) (h2 : n ≤ 9223372036854775807) (hs' : s' ≤ 6) (h1' : -9223372036854775808 ≤ n') (h2' : n' ≤ 9223372036854775807) :
    Calls Tryd.prog 93 #[.agg #[.int .i64 n, .int .i64 s], .agg #[.int .i64 n', .int .i64 s']] w fun e w' =>
      e = .returned (.int .i64 (cmpN n s n' s')) ∧ Below w.heap.size w w' := by
  unfold cmpN
  go_enter Tryd.func93, Tryd.ntmps93
  go_wp2_with fail
  refine (parts_any n s _ hs h1 h2).mono ?_
  rintro e w1 ⟨rfl, q1, o1, rfl⟩
  go_wp2_with fail
  refine (parts_any n' s' _ hs' h1' h2').mono ?_
  rintro e w2 ⟨rfl, q2, o2, rfl⟩
  go_wp2_with fail
  refine (cmpInt_any _ _ _).mono ?_
  rintro e w3 ⟨rfl, rfl⟩
  go_wp2_with fail
  refine (cmpInt_any _ _ _).mono ?_
  rintro e w4 ⟨rfl, rfl⟩
  go_wp2_with fail
  refine (cmpOr_any _ _ _ _ (by simp [go_sem]; rfl) (by simp [go_sem]; rfl)).mono ?_
  rintro e w5 ⟨rfl, rfl⟩
  go_wp2
  go_ret
  refine ⟨rfl, ?_⟩
  repeat (first | with_reducible exact Below.refl _ _ | with_reducible apply bl_alloc | with_reducible apply Below.drew | with_reducible apply below_drewN)

theorem compareKind_any (k n s k' n' s' : Int) (a a' : Option Addr) (len cap len' cap' : Nat) (w : World) :
    Calls Tryd.prog 81 #[.agg #[.int .i64 k, .slice a len cap, .int .i64 n, .int .i64 s], .agg #[.int .i64 k', .slice a' len' cap', .int .i64 n', .int .i64 s']] w fun e w' =>
      e = .returned (.int .i64 (cmpI k k')) ∧ Below w.heap.size w w' := by
  go_enter Tryd.func81, Tryd.ntmps81
  go_wp2_with fail
  refine (cmpInt_any _ _ _).mono ?_
  rintro e w1 ⟨rfl, rfl⟩
  go_wp2
  go_ret
  refine ⟨rfl, ?_⟩
  repeat (first | with_reducible exact Below.refl _ _ | with_reducible apply bl_alloc | with_reducible apply Below.drew | with_reducible apply below_drewN)

theorem decimalBl_any (k n s : Int) (a : Option Addr) (len cap : Nat) (w : World) :
    Calls Tryd.prog 27 #[.agg #[.int .i64 k, .slice a len cap, .int .i64 n, .int .i64 s]] w fun e w' => e = .returned (.agg #[.int .i64 n, .int .i64 s]) ∧ Below w.heap.size w w' :=
  (decimal_any k n s a len cap w).mono fun _ _ ⟨h, _, _, e⟩ => ⟨h, by subst e; exact bl_alloc (bl_a _) _⟩

set_option maxHeartbeats 1000000 in
theorem compareNumber_any (k n k' n' : Int) (s s' : Nat) (a a' : Option Addr) (len cap len' cap' : Nat) (w : World) (hs : s ≤ 6) (h1 : -9223372036854775808 ≤ n) (h2 : n ≤ 9223372036854775807) (hs' : s' ≤ 6) (h1' : -9223372036854775808 ≤ n') (h2' : n' ≤ 9223372036854775807) :
    Calls Tryd.prog 83 #[.agg #[.int .i64 k, .slice a len cap, .int .i64 n, .int .i64 s], .agg #[.int .i64 k', .slice a' len' cap', .int .i64 n', .int .i64 s']] w fun e w' =>
      e = .returned (.int .i64 (cmpN n s n' s')) ∧ Below w.heap.size w w' := by
  go_enter Tryd.func83, Tryd.ntmps83
  go_wp2_with fail
  go_region_with (first
    | (go_at_call 27; refine (decimal_any _ _ _ _ _ _ _).mono ?_; rintro e w1 ⟨rfl, o1, o2, rfl⟩)
    | (go_at_call 93; refine (decCompare_any n n' s s' _ hs h1 h2 hs' h1' h2').mono ?_; rintro e w2 ⟨rfl, hb2⟩))
  all_goals (go_wp2; go_ret; refine ⟨rfl, bl_trans ?_ hb2⟩; repeat (first | with_reducible exact Below.refl _ _ | with_reducible apply bl_alloc | with_reducible apply Below.drew | with_reducible apply below_drewN))
end Go.Proofs.YtmpiadlmkeimdaaDoor
