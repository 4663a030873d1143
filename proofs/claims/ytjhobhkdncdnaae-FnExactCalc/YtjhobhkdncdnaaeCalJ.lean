/- The model's l1calc: add. -/
import Derived.Test.YtjhobhkdncdnaaeCalF
import Derived.Test.YtjhobhkdncdnaaeCmpD
namespace Go.Proofs.Ytjhobhkdncdnaae
open Go.RowKit Go.Deep

set_option maxHeartbeats 2000000 in
theorem l1calc_add (k k' n n' : Int) (s s' : Nat) (a a' : Option Addr) (len cap len' cap' : Nat) (w : World) (h1 : -1000000000000000 ≤ n) (h2 : n ≤ 1000000000000000) (h1' : -1000000000000000 ≤ n') (h2' : n' ≤ 1000000000000000) (hs : s ≤ 6) (hs' : s' ≤ 6) :
    Calls Try.prog 39 #[.int .i64 0, .agg #[.int .i64 k, .slice a len cap, .int .i64 n, .int .i64 s], .agg #[.int .i64 k', .slice a' len' cap', .int .i64 n', .int .i64 s']] w fun e w' => e = .returned (resV (calcP 0 n s n' s')) ∧ Below w.heap.size w w' := by
  have a1 := p10_pos (max s s' - s)
  have a2 := p10_pos (max s s' - s')
  have a3 : p10 (max s s' - s) ≤ 1000000 := p10_le (by omega)
  have a4 : p10 (max s s' - s') ≤ 1000000 := p10_le (by omega)
  have T1 := fun w => l1times_any n (p10 (max s s' - s)) w (by omega) (by omega) (by omega) (by omega)
  have T2 := fun w => l1times_any n' (p10 (max s s' - s')) w (by omega) (by omega) (by omega) (by omega)
  have P1 := fun w => l1pow_any (max s s' - s) w (by omega)
  have P2 := fun w => l1pow_any (max s s' - s') w (by omega)
  have v1 := prodV_bound n (p10 (max s s' - s))
  have v2 := prodV_bound n' (p10 (max s s' - s'))
  have sb := sum_bound n n' s s' h1 h2 h1' h2'
  have HP : Hid (calcP 0 n s n' s' = if prodOk n (p10 (max s s' - s)) && prodOk n' (p10 (max s s' - s')) then norm (max s s') (prodV n (p10 (max s s' - s)) + prodV n' (p10 (max s s' - s'))) else (0, 7)) := rfl
  generalize calcP 0 n s n' s' = P0 at *
  by_cases hlt : s < s'
  · skip
    rw [Nat.max_eq_right (Nat.le_of_lt hlt)] at *
    have hc1 : ((s' - s : Nat) : Int) = (s' : Int) - (s : Int) := by omega
    have hc2 : ((s' - s' : Nat) : Int) = (s' : Int) - (s' : Int) := by omega
    rw [hc1] at P1
    rw [hc2] at P2
    rw [Int.sub_self] at P2
    clear hc1 hc2
    generalize prodV n (p10 (s' - s)) = x at *
    generalize prodV n' (p10 (s' - s')) = y at *
    generalize prodOk n (p10 (s' - s)) = xo at *
    generalize prodOk n' (p10 (s' - s')) = yo at *
    generalize p10 (s' - s) = p1 at *
    generalize p10 (s' - s') = p2 at *
    have hsc : (s : Int) < s' := by omega
    go_enter Try.func39, Try.ntmps39
    go_wp2_with fail
    go_quiet (first | (go_at_call 51; with_reducible exact Calls.quiet_of_same (P1 _)) | (go_at_call 49; with_reducible exact Calls.quiet_of_same (T1 _)))
    go_wp2_with fail
    have hR0 := (Own4.at ((w.alloc (.cells #[.int .i64 k, .slice a len cap, .int .i64 n, .int .i64 s] 27)).alloc (.cells #[.int .i64 k', .slice a' len' cap', .int .i64 n', .int .i64 s'] 27)) (w.heap.size + 1 + 1) (.int .i64 0) (.slice none 0 0) (.int .i64 0) (.int .i64 0) 27 (by simp)).below (below_drewN (Below.refl _ _) nq)
    have hX0 := (At4.at (w.alloc (.cells #[.int .i64 k, .slice a len cap, .int .i64 n, .int .i64 s] 27)) (w.heap.size + 1) (.int .i64 k') (.slice a' len' cap') (.int .i64 n') (.int .i64 s') 27 (by simp)).below (below_drewN (bl_a (.cells #[.int .i64 0, .slice none 0 0, .int .i64 0, .int .i64 0] 27)) nq)
    have hw0 := below_drewN (bl_alloc (bl_alloc (bl_a (w := w) (.cells #[.int .i64 k, .slice a len cap, .int .i64 n, .int .i64 s] 27)) (.cells #[.int .i64 k', .slice a' len' cap', .int .i64 n', .int .i64 s'] 27)) (.cells #[.int .i64 0, .slice none 0 0, .int .i64 0, .int .i64 0] 27)) nq
    generalize World.drewN _ nq = w5 at hR0 hX0 hw0 ⊢
    obtain ⟨x0, x1, x2, x3, x4⟩ := id hX0
    go_quiet (first | (go_at_call 51; with_reducible exact Calls.quiet_of_same (P2 _)) | (go_at_call 49; with_reducible exact Calls.quiet_of_same (T2 _)))
    have hR := hR0.below (below_drewN (Below.refl _ _) nq)
    have hw := below_drewN hw0 nq
    clear hR0 hX0 hw0 x0 x1 x2 x3 x4 P1 P2 T1 T2
    generalize World.drewN w5 nq = w6 at hR hw ⊢
    obtain ⟨⟨r0, r1, r2, r3, r4⟩, f0, f1, f2, f3⟩ := id hR
    cases xo
    · skip
      have EC : Hid (resV P0 = .tuple #[.agg #[.int .i64 0, .slice none 0 0, .int .i64 0, .int .i64 0], .bool false]) := by
        show _ = _
        rw [HP.out]
        exact resV_none
      clear HP
      go_wp2
      refine bodyPost_ret (v := .tuple #[.agg #[.int .i64 0, .slice none 0 0, .int .i64 0, .int .i64 0], .bool false]) (by simp [results, Try.results39, go_sem, *]) rfl ⟨by rw [EC.out], ?_⟩
      repeat (first | with_reducible exact hw | with_reducible refine bl_set ?_ (by dsimp only; omega) _)
    cases yo
    · skip
      have EC : Hid (resV P0 = .tuple #[.agg #[.int .i64 0, .slice none 0 0, .int .i64 0, .int .i64 0], .bool false]) := by
        show _ = _
        rw [HP.out]
        exact resV_none
      clear HP
      go_wp2
      refine bodyPost_ret (v := .tuple #[.agg #[.int .i64 0, .slice none 0 0, .int .i64 0, .int .i64 0], .bool false]) (by simp [results, Try.results39, go_sem, *]) rfl ⟨by rw [EC.out], ?_⟩
      repeat (first | with_reducible exact hw | with_reducible refine bl_set ?_ (by dsimp only; omega) _)
    have EF0 : P0 = norm s' (x + y) := HP.out
    have Su := fun w => l1sum_any x (y) s' w (by omega) (by omega) (by omega) (by omega) (by omega)
    rw [← EF0] at Su
    have EF : Hid (resV P0 = .tuple #[.agg #[.int .i64 (tK P0), .slice none 0 0, .int .i64 (tN P0), .int .i64 (tS P0)], .bool (numOk P0.1 P0.2)]) := rfl
    rw [EF.out] at Su
    generalize tK P0 = z1 at *
    generalize tN P0 = z2 at *
    generalize tS P0 = z3 at *
    generalize numOk P0.1 P0.2 = z4 at *
    clear HP EF0
    go_wp2_with fail
    refine (Su _).mono ?_
    rintro e w7 ⟨rfl, hb7⟩
    have hR7 := hR.below hb7
    have hw7 := bl_trans hw hb7
    clear hb7 Su r0 r1 r2 r3 r4 f0 f1 f2 f3
    obtain ⟨⟨r0, r1, r2, r3, r4⟩, f0, f1, f2, f3⟩ := id hR7
    go_wp2
    refine bodyPost_ret (v := .tuple #[.agg #[.int .i64 z1, .slice none 0 0, .int .i64 z2, .int .i64 z3], .bool z4]) (by simp [results, Try.results39, go_sem, *]) rfl ⟨by rw [EF.out], ?_⟩
    repeat (first | with_reducible exact hw7 | with_reducible refine bl_set ?_ (by dsimp only; omega) _)
  · skip
    rw [Nat.max_eq_left (by omega)] at *
    have hc1 : ((s - s : Nat) : Int) = (s : Int) - (s : Int) := by omega
    have hc2 : ((s - s' : Nat) : Int) = (s : Int) - (s' : Int) := by omega
    rw [hc1] at P1
    rw [hc2] at P2
    rw [Int.sub_self] at P1
    clear hc1 hc2
    generalize prodV n (p10 (s - s)) = x at *
    generalize prodV n' (p10 (s - s')) = y at *
    generalize prodOk n (p10 (s - s)) = xo at *
    generalize prodOk n' (p10 (s - s')) = yo at *
    generalize p10 (s - s) = p1 at *
    generalize p10 (s - s') = p2 at *
    have hsc : ¬ (s : Int) < s' := by omega
    go_enter Try.func39, Try.ntmps39
    go_wp2_with fail
    go_quiet (first | (go_at_call 51; with_reducible exact Calls.quiet_of_same (P1 _)) | (go_at_call 49; with_reducible exact Calls.quiet_of_same (T1 _)))
    go_wp2_with fail
    have hR0 := (Own4.at ((w.alloc (.cells #[.int .i64 k, .slice a len cap, .int .i64 n, .int .i64 s] 27)).alloc (.cells #[.int .i64 k', .slice a' len' cap', .int .i64 n', .int .i64 s'] 27)) (w.heap.size + 1 + 1) (.int .i64 0) (.slice none 0 0) (.int .i64 0) (.int .i64 0) 27 (by simp)).below (below_drewN (Below.refl _ _) nq)
    have hX0 := (At4.at (w.alloc (.cells #[.int .i64 k, .slice a len cap, .int .i64 n, .int .i64 s] 27)) (w.heap.size + 1) (.int .i64 k') (.slice a' len' cap') (.int .i64 n') (.int .i64 s') 27 (by simp)).below (below_drewN (bl_a (.cells #[.int .i64 0, .slice none 0 0, .int .i64 0, .int .i64 0] 27)) nq)
    have hw0 := below_drewN (bl_alloc (bl_alloc (bl_a (w := w) (.cells #[.int .i64 k, .slice a len cap, .int .i64 n, .int .i64 s] 27)) (.cells #[.int .i64 k', .slice a' len' cap', .int .i64 n', .int .i64 s'] 27)) (.cells #[.int .i64 0, .slice none 0 0, .int .i64 0, .int .i64 0] 27)) nq
    generalize World.drewN _ nq = w5 at hR0 hX0 hw0 ⊢
    obtain ⟨x0, x1, x2, x3, x4⟩ := id hX0
    go_quiet (first | (go_at_call 51; with_reducible exact Calls.quiet_of_same (P2 _)) | (go_at_call 49; with_reducible exact Calls.quiet_of_same (T2 _)))
    have hR := hR0.below (below_drewN (Below.refl _ _) nq)
    have hw := below_drewN hw0 nq
    clear hR0 hX0 hw0 x0 x1 x2 x3 x4 P1 P2 T1 T2
    generalize World.drewN w5 nq = w6 at hR hw ⊢
    obtain ⟨⟨r0, r1, r2, r3, r4⟩, f0, f1, f2, f3⟩ := id hR
    cases xo
    · skip
      have EC : Hid (resV P0 = .tuple #[.agg #[.int .i64 0, .slice none 0 0, .int .i64 0, .int .i64 0], .bool false]) := by
        show _ = _
        rw [HP.out]
        exact resV_none
      clear HP
      go_wp2
      refine bodyPost_ret (v := .tuple #[.agg #[.int .i64 0, .slice none 0 0, .int .i64 0, .int .i64 0], .bool false]) (by simp [results, Try.results39, go_sem, *]) rfl ⟨by rw [EC.out], ?_⟩
      repeat (first | with_reducible exact hw | with_reducible refine bl_set ?_ (by dsimp only; omega) _)
    cases yo
    · skip
      have EC : Hid (resV P0 = .tuple #[.agg #[.int .i64 0, .slice none 0 0, .int .i64 0, .int .i64 0], .bool false]) := by
        show _ = _
        rw [HP.out]
        exact resV_none
      clear HP
      go_wp2
      refine bodyPost_ret (v := .tuple #[.agg #[.int .i64 0, .slice none 0 0, .int .i64 0, .int .i64 0], .bool false]) (by simp [results, Try.results39, go_sem, *]) rfl ⟨by rw [EC.out], ?_⟩
      repeat (first | with_reducible exact hw | with_reducible refine bl_set ?_ (by dsimp only; omega) _)
    have EF0 : P0 = norm s (x + y) := HP.out
    have Su := fun w => l1sum_any x (y) s w (by omega) (by omega) (by omega) (by omega) (by omega)
    rw [← EF0] at Su
    have EF : Hid (resV P0 = .tuple #[.agg #[.int .i64 (tK P0), .slice none 0 0, .int .i64 (tN P0), .int .i64 (tS P0)], .bool (numOk P0.1 P0.2)]) := rfl
    rw [EF.out] at Su
    generalize tK P0 = z1 at *
    generalize tN P0 = z2 at *
    generalize tS P0 = z3 at *
    generalize numOk P0.1 P0.2 = z4 at *
    clear HP EF0
    go_wp2_with fail
    refine (Su _).mono ?_
    rintro e w7 ⟨rfl, hb7⟩
    have hR7 := hR.below hb7
    have hw7 := bl_trans hw hb7
    clear hb7 Su r0 r1 r2 r3 r4 f0 f1 f2 f3
    obtain ⟨⟨r0, r1, r2, r3, r4⟩, f0, f1, f2, f3⟩ := id hR7
    go_wp2
    refine bodyPost_ret (v := .tuple #[.agg #[.int .i64 z1, .slice none 0 0, .int .i64 z2, .int .i64 z3], .bool z4]) (by simp [results, Try.results39, go_sem, *]) rfl ⟨by rw [EF.out], ?_⟩
    repeat (first | with_reducible exact hw7 | with_reducible refine bl_set ?_ (by dsimp only; omega) _)
end Go.Proofs.Ytjhobhkdncdnaae
