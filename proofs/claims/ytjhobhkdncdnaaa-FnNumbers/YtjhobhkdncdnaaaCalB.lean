/- The contracts of the program's sums, products and quotients. -/
import Derived.Test.YtjhobhkdncdnaaaCalA
import Derived.Deep.RegionHeld3
namespace Go.Proofs.Ytjhobhkdncdnaaa
open Go.RowKit Go.Deep

theorem raised_any (n : Int) (s S : Nat) (w : World) (h1 : -1000000000000000 ≤ n) (h2 : n ≤ 1000000000000000) (hs : s ≤ S) (hS : S ≤ 6) :
    Calls Try.prog 51 #[.agg #[.int .i64 n, .int .i64 s], .int .i64 S] w fun e w' =>
      e = .returned (.tuple #[.int .i64 (prodV n (p10 (S - s))), .bool (prodOk n (p10 (S - s)))]) ∧ ∃ q o1, w' = (w.alloc o1).drewN q := by
  have b1 := p10_pos (S - s)
  have b2 : p10 (S - s) ≤ 1000000 := p10_le (by omega)
  have hc : ((S - s : Nat) : Int) = (S : Int) - (s : Int) := by omega
  have T := fun w => tenTo_any (S - s) w (by omega)
  rw [hc] at T
  have Pr := fun w => product_any n (p10 (S - s)) w (by omega) (by omega) (by omega) (by omega)
  generalize p10 (S - s) = p at *
  go_enter Try.func51, Try.ntmps51
  go_wp2_with fail
  go_quiet (first | (go_at_call 55; with_reducible exact Calls.quiet_of_same (T _)) | (go_at_call 52; with_reducible exact Calls.quiet_of_same (Pr _)))
  go_wp2
  go_ret2
  exact ⟨rfl, _, _, rfl⟩

theorem unsigned_any (n : Int) (s : Int) (w : World) (h1 : -1000000000000000 ≤ n) (h2 : n ≤ 1000000000000000) :
    Calls Try.prog 53 #[.agg #[.int .i64 n, .int .i64 s]] w fun e w' =>
      e = .returned (.agg #[.int .i64 (absI n), .int .i64 s]) ∧ ∃ q o1 o2, w' = ((w.alloc o1).alloc o2).drewN q := by
  have sz := fun w => size_any n w (by omega) (by omega)
  go_enter Try.func53, Try.ntmps53
  go_wp2_with fail
  go_region_with (first | (go_at_call 56; refine (sz _).mono ?_; rintro e w1 ⟨rfl, rfl⟩))
  all_goals go_wp2
  all_goals simp [bodyPost, results, Try.results53, go_sem]
  all_goals exact ⟨1, _, _, rfl⟩

theorem times_any (n n' s s' : Int) (w : World) (h1 : -1000000000000000 ≤ n) (h2 : n ≤ 1000000000000000) (h1' : -1000000000000000 ≤ n') (h2' : n' ≤ 1000000000000000) (b1 : 0 ≤ s) (b2 : s ≤ 6) (b1' : 0 ≤ s') (b2' : s' ≤ 6) :
    Calls Try.prog 39 #[.agg #[.int .i64 n, .int .i64 s], .agg #[.int .i64 n', .int .i64 s']] w fun e w' =>
      e = .returned (.tuple #[.agg #[.int .i64 (prodV n n'), .int .i64 (s + s')], .bool (prodOk n n')]) ∧ Below w.heap.size w w' := by
  have Pr := fun w => product_any n n' w (by omega) (by omega) (by omega) (by omega)
  go_enter Try.func39, Try.ntmps39
  go_wp2_with fail
  refine (Pr _).mono ?_
  rintro e w1 ⟨rfl, rfl⟩
  go_wp2
  simp [bodyPost, results, Try.results39, go_sem]
  repeat (first | with_reducible exact Below.refl _ _ | with_reducible apply bl_alloc | with_reducible apply Below.drew | with_reducible apply below_drewN)

/-- The sum at one scale never leaves 64 bits: one of both is its own. -/
theorem sum_bound (n n' : Int) (s s' : Nat) (h1 : -1000000000000000 ≤ n) (h2 : n ≤ 1000000000000000) (h1' : -1000000000000000 ≤ n') (h2' : n' ≤ 1000000000000000) :
    -9000000000000000000 ≤ prodV n (p10 (max s s' - s)) + prodV n' (p10 (max s s' - s')) ∧ prodV n (p10 (max s s' - s)) + prodV n' (p10 (max s s' - s')) ≤ 9000000000000000000 := by
  have v1 := prodV_bound n (p10 (max s s' - s))
  have v2 := prodV_bound n' (p10 (max s s' - s'))
  by_cases h : s ≤ s'
  · have e : max s s' - s' = 0 := by omega
    rw [e] at v2 ⊢
    have e1 : p10 0 = 1 := rfl
    rw [e1, prodV_one n' h1' h2'] at *
    omega
  · have e : max s s' - s = 0 := by omega
    rw [e] at v1 ⊢
    have e1 : p10 0 = 1 := rfl
    rw [e1, prodV_one n h1 h2] at *
    omega

theorem plus_any (n n' : Int) (s s' : Nat) (w : World) (h1 : -1000000000000000 ≤ n) (h2 : n ≤ 1000000000000000) (h1' : -1000000000000000 ≤ n') (h2' : n' ≤ 1000000000000000) (hs : s ≤ 6) (hs' : s' ≤ 6) :
    Calls Try.prog 38 #[.agg #[.int .i64 n, .int .i64 s], .agg #[.int .i64 n', .int .i64 s']] w fun e w' =>
      e = .returned (.tuple #[.agg #[.int .i64 (prodV n (p10 (max s s' - s)) + prodV n' (p10 (max s s' - s'))), .int .i64 ((max s s' : Nat) : Int)], .bool (prodOk n (p10 (max s s' - s)) && prodOk n' (p10 (max s s' - s')))]) ∧ Below w.heap.size w w' := by
  have sb := sum_bound n n' s s' h1 h2 h1' h2'
  have v1 := prodV_bound n (p10 (max s s' - s))
  have v2 := prodV_bound n' (p10 (max s s' - s'))
  by_cases h : s < s'
  · rw [Nat.max_eq_right (Nat.le_of_lt h)] at *
    have R1 := fun w => raised_any n s s' w h1 h2 (by omega) (by omega)
    have R2 := fun w => raised_any n' s' s' w h1' h2' (by omega) (by omega)
    generalize prodV n (p10 (s' - s)) = x at *
    generalize prodV n' (p10 (s' - s')) = y at *
    generalize prodOk n (p10 (s' - s)) = xo at *
    generalize prodOk n' (p10 (s' - s')) = yo at *
    go_enter Try.func38, Try.ntmps38
    go_wp2_with fail
    refine (R1 _).mono ?_
    rintro e w1 ⟨rfl, q1, o1, rfl⟩
    go_wp2_with fail
    refine (R2 _).mono ?_
    rintro e w2 ⟨rfl, q2, o2, rfl⟩
    cases xo
    · go_wp2
      simp [bodyPost, results, Try.results38, go_sem]
      repeat (first | with_reducible exact Below.refl _ _ | with_reducible refine bl_set ?_ (by dsimp only; omega) _ | with_reducible apply bl_alloc | with_reducible apply Below.drew | with_reducible apply below_drewN)
    · go_wp2
      simp [bodyPost, results, Try.results38, go_sem]
      repeat (first | with_reducible exact Below.refl _ _ | with_reducible refine bl_set ?_ (by dsimp only; omega) _ | with_reducible apply bl_alloc | with_reducible apply Below.drew | with_reducible apply below_drewN)
  · rw [Nat.max_eq_left (by omega)] at *
    have R1 := fun w => raised_any n s s w h1 h2 (by omega) (by omega)
    have R2 := fun w => raised_any n' s' s w h1' h2' (by omega) (by omega)
    generalize prodV n (p10 (s - s)) = x at *
    generalize prodV n' (p10 (s - s')) = y at *
    generalize prodOk n (p10 (s - s)) = xo at *
    generalize prodOk n' (p10 (s - s')) = yo at *
    go_enter Try.func38, Try.ntmps38
    go_wp2_with fail
    refine (R1 _).mono ?_
    rintro e w1 ⟨rfl, q1, o1, rfl⟩
    go_wp2_with fail
    refine (R2 _).mono ?_
    rintro e w2 ⟨rfl, q2, o2, rfl⟩
    cases xo
    · go_wp2
      simp [bodyPost, results, Try.results38, go_sem]
      repeat (first | with_reducible exact Below.refl _ _ | with_reducible refine bl_set ?_ (by dsimp only; omega) _ | with_reducible apply bl_alloc | with_reducible apply Below.drew | with_reducible apply below_drewN)
    · go_wp2
      simp [bodyPost, results, Try.results38, go_sem]
      repeat (first | with_reducible exact Below.refl _ _ | with_reducible refine bl_set ?_ (by dsimp only; omega) _ | with_reducible apply bl_alloc | with_reducible apply Below.drew | with_reducible apply below_drewN)
end Go.Proofs.Ytjhobhkdncdnaaa
