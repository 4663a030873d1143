/- The model's l1calc: products. -/
import Derived.Test.YtjhobhkdncdnaaeCalF
import Derived.Test.YtjhobhkdncdnaaeCmpD
namespace Go.Proofs.Ytjhobhkdncdnaae
open Go.RowKit Go.Deep

set_option maxHeartbeats 2000000 in
theorem l1calc_mul (k k' n n' : Int) (s s' : Nat) (a a' : Option Addr) (len cap len' cap' : Nat) (w : World) (h1 : -1000000000000000 ≤ n) (h2 : n ≤ 1000000000000000) (h1' : -1000000000000000 ≤ n') (h2' : n' ≤ 1000000000000000) (hs : s ≤ 6) (hs' : s' ≤ 6) :
    Calls Try.prog 39 #[.int .i64 2, .agg #[.int .i64 k, .slice a len cap, .int .i64 n, .int .i64 s], .agg #[.int .i64 k', .slice a' len' cap', .int .i64 n', .int .i64 s']] w fun e w' => e = .returned (resV (calcP 2 n s n' s')) ∧ Below w.heap.size w w' := by
  have T := fun w => l1times_any n n' w (by omega) (by omega) (by omega) (by omega)
  have bd := prodV_bound n n'
  have HP : Hid (calcP 2 n s n' s' = if prodOk n n' then norm (s + s') (prodV n n') else (0, 7)) := rfl
  generalize calcP 2 n s n' s' = P0 at *
  generalize prodV n n' = N at *
  generalize prodOk n n' = ok at *
  by_cases hsc : (s : Int) < s'
  · go_enter Try.func39, Try.ntmps39
    go_wp2_with fail
    refine (T _).mono ?_
    rintro e w1 ⟨rfl, rfl⟩
    clear T
    have hR := Own4.at ((w.alloc (.cells #[.int .i64 k, .slice a len cap, .int .i64 n, .int .i64 s] 27)).alloc (.cells #[.int .i64 k', .slice a' len' cap', .int .i64 n', .int .i64 s'] 27)) (w.heap.size + 1 + 1) (.int .i64 0) (.slice none 0 0) (.int .i64 0) (.int .i64 0) 27 (by simp)
    have hw := bl_alloc (bl_alloc (bl_a (w := w) (.cells #[.int .i64 k, .slice a len cap, .int .i64 n, .int .i64 s] 27)) (.cells #[.int .i64 k', .slice a' len' cap', .int .i64 n', .int .i64 s'] 27)) (.cells #[.int .i64 0, .slice none 0 0, .int .i64 0, .int .i64 0] 27)
    cases ok
    · have EC : Hid (resV P0 = .tuple #[.agg #[.int .i64 0, .slice none 0 0, .int .i64 0, .int .i64 0], .bool false]) := by
        show _ = _
        rw [HP.out]
        exact resV_none
      go_wp2_with fail
      refine wp_loop_rounds 1 ?_
      rw [rounds_succ]
      go_wp2
      refine bodyPost_ret (v := .tuple #[.agg #[.int .i64 0, .slice none 0 0, .int .i64 0, .int .i64 0], .bool false]) (by simp [results, Try.results39, go_sem]) rfl ⟨by rw [EC.out], bl_alloc (bl_alloc (bl_a _) _) _⟩
    have HQ : Hid (P0 = norm (s + s') N) := HP.out
    clear HP
    go_wp2_with fail
    go_loop [9, 11] (fun x y => ∃ (j : Nat) (m : Int), j ≤ s + s' ∧ -9223372036854775808 ≤ m ∧ m ≤ 9223372036854775807 ∧ norm j m = norm (s + s') N ∧ x = .int .i64 m ∧ y = .int .i64 j)
      (fun _ y => (intOf y).toNat)
    case atStart => exact ⟨s + s', N, Nat.le_refl _, by omega, by omega, rfl, rfl, by go_num⟩
    case round =>
      obtain ⟨j, m, hj, hm1, hm2, hn, rfl, rfl⟩ := hrel
      have HN : Hid (norm j m = norm (s + s') N) := hn
      clear hn
      by_cases hgo : 0 < j ∧ (m.tmod 10 == 0) = true
      · obtain ⟨hp, ht⟩ := hgo
        go_wp2
        go_round
        case rel => exact ⟨j - 1, m.tdiv 10, by omega, tdiv10_lo m hm1, tdiv10_hi m hm2, (norm_step j m hp ht).trans HN.out, rfl, by go_num⟩
        case measure => simp [intOf]; omega
      · have hstop : norm j m = (m, (j : Int)) := by
          by_cases hp : 0 < j
          · exact norm_stop j m hp (by
              cases hq : (m.tmod 10 == 0)
              · rfl
              · exact absurd ⟨hp, hq⟩ hgo)
          · exact norm_zero j m hp
        have HE : Hid (P0 = (m, (j : Int))) := by
          show _ = _
          rw [HQ.out, ← HN.out, hstop]
        have HI : Hid (j ≤ 6 → numP m j = (m, (j : Int))) := by
          show _ → _
          intro h6
          unfold numP
          rw [if_pos ⟨by omega, by omega⟩]
          exact hstop
        have Nm := fun w => specNum_any m j w hm1 hm2
        clear hstop
        by_cases hp : 0 < j
        · have ht : (m.tmod 10 == 0) = false := by
            cases hq : (m.tmod 10 == 0)
            · rfl
            · exact absurd ⟨hp, hq⟩ hgo
          clear hgo
          by_cases h6 : j ≤ 6
          · have ei := HI.out h6
            rw [ei] at Nm
            have EF : Hid (resV P0 = .tuple #[.agg #[.int .i64 (tK (m, (j : Int))), .slice none 0 0, .int .i64 (tN (m, (j : Int))), .int .i64 (tS (m, (j : Int)))], .bool (numOk m j)]) := by
              show _ = _
              rw [HE.out]
              rfl
            generalize tK (m, (j : Int)) = z1 at *
            generalize tN (m, (j : Int)) = z2 at *
            generalize tS (m, (j : Int)) = z3 at *
            generalize numOk m j = z4 at *
            clear HI HE ei HQ HN
            go_wp2_with fail
            refine (Nm _).mono ?_
            rintro e w6 ⟨rfl, hb6⟩
            have hR6 := hR.below hb6
            have hw6 := bl_trans hw hb6
            clear hb6 Nm
            obtain ⟨⟨r0, r1, r2, r3, r4⟩, f0, f1, f2, f3⟩ := id hR6
            go_wp2
            refine bodyPost_ret (v := .tuple #[.agg #[.int .i64 z1, .slice none 0 0, .int .i64 z2, .int .i64 z3], .bool z4]) (by simp [results, Try.results39, go_sem, *]) rfl ⟨by rw [EF.out], ?_⟩
            repeat (first | with_reducible exact hw6 | with_reducible refine bl_set ?_ (by dsimp only; omega) _)
          · have EC : Hid (resV P0 = .tuple #[.agg #[.int .i64 0, .slice none 0 0, .int .i64 0, .int .i64 0], .bool false]) := by
              show _ = _
              rw [HE.out, resV_over _ (by show 6 < (j : Int); omega)]
              exact resV_none
            clear HI HE HQ HN Nm
            go_wp2
            refine bodyPost_ret (v := .tuple #[.agg #[.int .i64 0, .slice none 0 0, .int .i64 0, .int .i64 0], .bool false]) (by simp [results, Try.results39, go_sem]) rfl ⟨by rw [EC.out], bl_alloc (bl_alloc (bl_a _) _) _⟩
        · clear hgo
          by_cases h6 : j ≤ 6
          · have ei := HI.out h6
            rw [ei] at Nm
            have EF : Hid (resV P0 = .tuple #[.agg #[.int .i64 (tK (m, (j : Int))), .slice none 0 0, .int .i64 (tN (m, (j : Int))), .int .i64 (tS (m, (j : Int)))], .bool (numOk m j)]) := by
              show _ = _
              rw [HE.out]
              rfl
            generalize tK (m, (j : Int)) = z1 at *
            generalize tN (m, (j : Int)) = z2 at *
            generalize tS (m, (j : Int)) = z3 at *
            generalize numOk m j = z4 at *
            clear HI HE ei HQ HN
            go_wp2_with fail
            refine (Nm _).mono ?_
            rintro e w6 ⟨rfl, hb6⟩
            have hR6 := hR.below hb6
            have hw6 := bl_trans hw hb6
            clear hb6 Nm
            obtain ⟨⟨r0, r1, r2, r3, r4⟩, f0, f1, f2, f3⟩ := id hR6
            go_wp2
            refine bodyPost_ret (v := .tuple #[.agg #[.int .i64 z1, .slice none 0 0, .int .i64 z2, .int .i64 z3], .bool z4]) (by simp [results, Try.results39, go_sem, *]) rfl ⟨by rw [EF.out], ?_⟩
            repeat (first | with_reducible exact hw6 | with_reducible refine bl_set ?_ (by dsimp only; omega) _)
          · omega
  · go_enter Try.func39, Try.ntmps39
    go_wp2_with fail
    refine (T _).mono ?_
    rintro e w1 ⟨rfl, rfl⟩
    clear T
    have hR := Own4.at ((w.alloc (.cells #[.int .i64 k, .slice a len cap, .int .i64 n, .int .i64 s] 27)).alloc (.cells #[.int .i64 k', .slice a' len' cap', .int .i64 n', .int .i64 s'] 27)) (w.heap.size + 1 + 1) (.int .i64 0) (.slice none 0 0) (.int .i64 0) (.int .i64 0) 27 (by simp)
    have hw := bl_alloc (bl_alloc (bl_a (w := w) (.cells #[.int .i64 k, .slice a len cap, .int .i64 n, .int .i64 s] 27)) (.cells #[.int .i64 k', .slice a' len' cap', .int .i64 n', .int .i64 s'] 27)) (.cells #[.int .i64 0, .slice none 0 0, .int .i64 0, .int .i64 0] 27)
    cases ok
    · have EC : Hid (resV P0 = .tuple #[.agg #[.int .i64 0, .slice none 0 0, .int .i64 0, .int .i64 0], .bool false]) := by
        show _ = _
        rw [HP.out]
        exact resV_none
      go_wp2_with fail
      refine wp_loop_rounds 1 ?_
      rw [rounds_succ]
      go_wp2
      refine bodyPost_ret (v := .tuple #[.agg #[.int .i64 0, .slice none 0 0, .int .i64 0, .int .i64 0], .bool false]) (by simp [results, Try.results39, go_sem]) rfl ⟨by rw [EC.out], bl_alloc (bl_alloc (bl_a _) _) _⟩
    have HQ : Hid (P0 = norm (s + s') N) := HP.out
    clear HP
    go_wp2_with fail
    go_loop [9, 11] (fun x y => ∃ (j : Nat) (m : Int), j ≤ s + s' ∧ -9223372036854775808 ≤ m ∧ m ≤ 9223372036854775807 ∧ norm j m = norm (s + s') N ∧ x = .int .i64 m ∧ y = .int .i64 j)
      (fun _ y => (intOf y).toNat)
    case atStart => exact ⟨s + s', N, Nat.le_refl _, by omega, by omega, rfl, rfl, by go_num⟩
    case round =>
      obtain ⟨j, m, hj, hm1, hm2, hn, rfl, rfl⟩ := hrel
      have HN : Hid (norm j m = norm (s + s') N) := hn
      clear hn
      by_cases hgo : 0 < j ∧ (m.tmod 10 == 0) = true
      · obtain ⟨hp, ht⟩ := hgo
        go_wp2
        go_round
        case rel => exact ⟨j - 1, m.tdiv 10, by omega, tdiv10_lo m hm1, tdiv10_hi m hm2, (norm_step j m hp ht).trans HN.out, rfl, by go_num⟩
        case measure => simp [intOf]; omega
      · have hstop : norm j m = (m, (j : Int)) := by
          by_cases hp : 0 < j
          · exact norm_stop j m hp (by
              cases hq : (m.tmod 10 == 0)
              · rfl
              · exact absurd ⟨hp, hq⟩ hgo)
          · exact norm_zero j m hp
        have HE : Hid (P0 = (m, (j : Int))) := by
          show _ = _
          rw [HQ.out, ← HN.out, hstop]
        have HI : Hid (j ≤ 6 → numP m j = (m, (j : Int))) := by
          show _ → _
          intro h6
          unfold numP
          rw [if_pos ⟨by omega, by omega⟩]
          exact hstop
        have Nm := fun w => specNum_any m j w hm1 hm2
        clear hstop
        by_cases hp : 0 < j
        · have ht : (m.tmod 10 == 0) = false := by
            cases hq : (m.tmod 10 == 0)
            · rfl
            · exact absurd ⟨hp, hq⟩ hgo
          clear hgo
          by_cases h6 : j ≤ 6
          · have ei := HI.out h6
            rw [ei] at Nm
            have EF : Hid (resV P0 = .tuple #[.agg #[.int .i64 (tK (m, (j : Int))), .slice none 0 0, .int .i64 (tN (m, (j : Int))), .int .i64 (tS (m, (j : Int)))], .bool (numOk m j)]) := by
              show _ = _
              rw [HE.out]
              rfl
            generalize tK (m, (j : Int)) = z1 at *
            generalize tN (m, (j : Int)) = z2 at *
            generalize tS (m, (j : Int)) = z3 at *
            generalize numOk m j = z4 at *
            clear HI HE ei HQ HN
            go_wp2_with fail
            refine (Nm _).mono ?_
            rintro e w6 ⟨rfl, hb6⟩
            have hR6 := hR.below hb6
            have hw6 := bl_trans hw hb6
            clear hb6 Nm
            obtain ⟨⟨r0, r1, r2, r3, r4⟩, f0, f1, f2, f3⟩ := id hR6
            go_wp2
            refine bodyPost_ret (v := .tuple #[.agg #[.int .i64 z1, .slice none 0 0, .int .i64 z2, .int .i64 z3], .bool z4]) (by simp [results, Try.results39, go_sem, *]) rfl ⟨by rw [EF.out], ?_⟩
            repeat (first | with_reducible exact hw6 | with_reducible refine bl_set ?_ (by dsimp only; omega) _)
          · have EC : Hid (resV P0 = .tuple #[.agg #[.int .i64 0, .slice none 0 0, .int .i64 0, .int .i64 0], .bool false]) := by
              show _ = _
              rw [HE.out, resV_over _ (by show 6 < (j : Int); omega)]
              exact resV_none
            clear HI HE HQ HN Nm
            go_wp2
            refine bodyPost_ret (v := .tuple #[.agg #[.int .i64 0, .slice none 0 0, .int .i64 0, .int .i64 0], .bool false]) (by simp [results, Try.results39, go_sem]) rfl ⟨by rw [EC.out], bl_alloc (bl_alloc (bl_a _) _) _⟩
        · clear hgo
          by_cases h6 : j ≤ 6
          · have ei := HI.out h6
            rw [ei] at Nm
            have EF : Hid (resV P0 = .tuple #[.agg #[.int .i64 (tK (m, (j : Int))), .slice none 0 0, .int .i64 (tN (m, (j : Int))), .int .i64 (tS (m, (j : Int)))], .bool (numOk m j)]) := by
              show _ = _
              rw [HE.out]
              rfl
            generalize tK (m, (j : Int)) = z1 at *
            generalize tN (m, (j : Int)) = z2 at *
            generalize tS (m, (j : Int)) = z3 at *
            generalize numOk m j = z4 at *
            clear HI HE ei HQ HN
            go_wp2_with fail
            refine (Nm _).mono ?_
            rintro e w6 ⟨rfl, hb6⟩
            have hR6 := hR.below hb6
            have hw6 := bl_trans hw hb6
            clear hb6 Nm
            obtain ⟨⟨r0, r1, r2, r3, r4⟩, f0, f1, f2, f3⟩ := id hR6
            go_wp2
            refine bodyPost_ret (v := .tuple #[.agg #[.int .i64 z1, .slice none 0 0, .int .i64 z2, .int .i64 z3], .bool z4]) (by simp [results, Try.results39, go_sem, *]) rfl ⟨by rw [EF.out], ?_⟩
            repeat (first | with_reducible exact hw6 | with_reducible refine bl_set ?_ (by dsimp only; omega) _)
          · omega
end Go.Proofs.Ytjhobhkdncdnaae
