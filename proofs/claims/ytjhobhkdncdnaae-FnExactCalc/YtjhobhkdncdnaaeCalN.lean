/- The contract of the model's Calc. -/
import Derived.Test.YtjhobhkdncdnaaeCalM
namespace Go.Proofs.Ytjhobhkdncdnaae
open Go.RowKit Go.Deep

set_option maxHeartbeats 2000000 in
theorem specCalc_any (op k n s k' n' s' : Int) (a a' : Option Addr) (len cap len' cap' : Nat) (bs bs' : List Int) (w : World)
    (hB : Bs w a len bs) (hB' : Bs w a' len' bs') (h1 : -9223372036854775808 ≤ n) (h2 : n ≤ 9223372036854775807) (h1' : -9223372036854775808 ≤ n') (h2' : n' ≤ 9223372036854775807) :
    Calls Try.prog 18 #[.int .i64 op, .agg #[.int .i64 k, .slice a len cap, .int .i64 n, .int .i64 s], .agg #[.int .i64 k', .slice a' len' cap', .int .i64 n', .int .i64 s']] w fun e w' =>
      e = .returned (resV (calcQ op k bs n s k' bs' n' s')) ∧ Below w.heap.size w w' := by
  have ok1 := fun w hB => specTermOk_any k n s a len cap bs w hB h1 h2
  have ok2 := fun w hB => specTermOk_any k' n' s' a' len' cap' bs' w hB h1' h2'
  by_cases e1 : termOk k bs n s = true
  · by_cases e2 : termOk k' bs' n' s' = true
    · by_cases hk : k = 3 ∧ k' = 3
      · obtain ⟨rfl, rfl⟩ := hk
        have i1 : isNum 3 bs n s = true := by simp [isNum, e1]
        have i2 : isNum 3 bs' n' s' = true := by simp [isNum, e2]
        obtain ⟨_, _, b1, b2, b3, b4⟩ := isNum_bounds i1
        obtain ⟨_, _, b1', b2', b3', b4'⟩ := isNum_bounds i2
        obtain ⟨t, rfl⟩ : ∃ t : Nat, s = t := ⟨s.toNat, by omega⟩
        obtain ⟨t', rfl⟩ : ∃ t : Nat, s' = t := ⟨s'.toNat, by omega⟩
        have C := fun w => l1calc_any op 3 3 n n' t t' a a' len cap len' cap' w b3 b4 b3' b4' (by omega) (by omega)
        have ec : calcQ op 3 bs n t 3 bs' n' t' = calcP op n t n' t' := by simp [calcQ, i1, i2]
        rw [ec]
        generalize calcP op n t n' t' = P0 at *
        have EF : Hid (resV P0 = .tuple #[.agg #[.int .i64 (tK P0), .slice none 0 0, .int .i64 (tN P0), .int .i64 (tS P0)], .bool (numOk P0.1 P0.2)]) := rfl
        rw [EF.out] at C
        generalize tK P0 = z1 at *
        generalize tN P0 = z2 at *
        generalize tS P0 = z3 at *
        generalize numOk P0.1 P0.2 = z4 at *
        simp only [e1, e2] at ok1 ok2
        clear ec i1 i2
        go_enter Try.func18, Try.ntmps18
        go_wp2_with fail
        refine (ok1 _ (hB.below (bl_alloc (bl_alloc (bl_a _) _) _))).mono ?_
        rintro e w1 ⟨rfl, o1, rfl⟩
        go_wp2_with fail
        refine (ok2 _ (hB'.below (bl_alloc (bl_alloc (bl_alloc (bl_a _) _) _) _))).mono ?_
        rintro e w2 ⟨rfl, o2, rfl⟩
        go_wp2_with fail
        refine (C _).mono ?_
        rintro e w6 ⟨rfl, hb6⟩
        have hR6 := ((Own4.at ((w.alloc _).alloc _) (w.heap.size + 1 + 1) _ _ _ _ _ (by simp)).below (bl_alloc (bl_a o1) o2)).below hb6
        have hw6 := bl_trans (bl_alloc (bl_alloc (bl_alloc (bl_alloc (bl_a _) _) _) _) _) hb6
        clear hb6 C ok1 ok2
        obtain ⟨⟨r0, r1, r2, r3, r4⟩, f0, f1, f2, f3⟩ := id hR6
        go_wp2
        refine bodyPost_ret (v := .tuple #[.agg #[.int .i64 z1, .slice none 0 0, .int .i64 z2, .int .i64 z3], .bool z4]) (by simp [results, Try.results18, go_sem, *]) rfl ⟨by rw [EF.out], ?_⟩
        repeat (first | with_reducible exact hw6 | with_reducible refine bl_set ?_ (by dsimp only; omega) _)
      · have ec : calcQ op k bs n s k' bs' n' s' = (0, 7) := by
          unfold calcQ
          rw [if_neg]
          simp [isNum]
          intro g1 _ g2
          exact absurd ⟨g1, g2⟩ hk
        rw [ec, resV_none]
        simp only [e1, e2] at ok1 ok2
        by_cases hk1 : k = 3
        · have hk2 : (k' != 3) = true := by
            simp
            intro h; exact hk ⟨hk1, h⟩
          subst hk1
          clear hk ec
          go_enter Try.func18, Try.ntmps18
          go_wp2_with fail
          refine (ok1 _ (hB.below (bl_alloc (bl_alloc (bl_a _) _) _))).mono ?_
          rintro e w1 ⟨rfl, o1, rfl⟩
          go_wp2_with fail
          refine (ok2 _ (hB'.below (bl_alloc (bl_alloc (bl_alloc (bl_a _) _) _) _))).mono ?_
          rintro e w2 ⟨rfl, o2, rfl⟩
          go_wp2
          refine bodyPost_ret (v := .tuple #[.agg #[.int .i64 0, .slice none 0 0, .int .i64 0, .int .i64 0], .bool false]) (by simp [results, Try.results18, go_sem]) rfl ⟨rfl, ?_⟩
          repeat (first | with_reducible exact Below.refl _ _ | with_reducible apply bl_alloc)
        · have hk2 : (k != 3) = true := by simp [hk1]
          clear hk ec hk1
          go_enter Try.func18, Try.ntmps18
          go_wp2_with fail
          refine (ok1 _ (hB.below (bl_alloc (bl_alloc (bl_a _) _) _))).mono ?_
          rintro e w1 ⟨rfl, o1, rfl⟩
          go_wp2_with fail
          refine (ok2 _ (hB'.below (bl_alloc (bl_alloc (bl_alloc (bl_a _) _) _) _))).mono ?_
          rintro e w2 ⟨rfl, o2, rfl⟩
          go_wp2
          refine bodyPost_ret (v := .tuple #[.agg #[.int .i64 0, .slice none 0 0, .int .i64 0, .int .i64 0], .bool false]) (by simp [results, Try.results18, go_sem]) rfl ⟨rfl, ?_⟩
          repeat (first | with_reducible exact Below.refl _ _ | with_reducible apply bl_alloc)
    · have e2' : termOk k' bs' n' s' = false := by simpa using e2
      have ec : calcQ op k bs n s k' bs' n' s' = (0, 7) := by simp [calcQ, isNum, e2']
      rw [ec, resV_none]
      simp only [e1, e2'] at ok1 ok2
      clear ec e2
      go_enter Try.func18, Try.ntmps18
      go_wp2_with fail
      refine (ok1 _ (hB.below (bl_alloc (bl_alloc (bl_a _) _) _))).mono ?_
      rintro e w1 ⟨rfl, o1, rfl⟩
      go_wp2_with fail
      refine (ok2 _ (hB'.below (bl_alloc (bl_alloc (bl_alloc (bl_a _) _) _) _))).mono ?_
      rintro e w2 ⟨rfl, o2, rfl⟩
      go_wp2
      refine bodyPost_ret (v := .tuple #[.agg #[.int .i64 0, .slice none 0 0, .int .i64 0, .int .i64 0], .bool false]) (by simp [results, Try.results18, go_sem]) rfl ⟨rfl, ?_⟩
      repeat (first | with_reducible exact Below.refl _ _ | with_reducible apply bl_alloc)
  · have e1' : termOk k bs n s = false := by simpa using e1
    have ec : calcQ op k bs n s k' bs' n' s' = (0, 7) := by simp [calcQ, isNum, e1']
    rw [ec, resV_none]
    simp only [e1'] at ok1
    clear ec e1
    go_enter Try.func18, Try.ntmps18
    go_wp2_with fail
    refine (ok1 _ (hB.below (bl_alloc (bl_alloc (bl_a _) _) _))).mono ?_
    rintro e w1 ⟨rfl, o1, rfl⟩
    go_wp2
    refine bodyPost_ret (v := .tuple #[.agg #[.int .i64 0, .slice none 0 0, .int .i64 0, .int .i64 0], .bool false]) (by simp [results, Try.results18, go_sem]) rfl ⟨rfl, ?_⟩
    repeat (first | with_reducible exact Below.refl _ _ | with_reducible apply bl_alloc)
end Go.Proofs.Ytjhobhkdncdnaae
