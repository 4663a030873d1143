/- The model's Compare where neither term may be. -/
import Derived.Test.YtjacldecbmhgeaeCmpF
namespace Go.Proofs.Ytjacldecbmhgeae
open Go.RowKit Go.Deep

set_option maxHeartbeats 2000000 in
theorem specCompare_nn (k n s k' n' s' : Int) (a a' : Option Addr) (len cap len' cap' : Nat) (bs bs' : List Int) (w : World)
    (hB : Bs w a len bs) (hB' : Bs w a' len' bs') (h1 : -9223372036854775808 ≤ n) (h2 : n ≤ 9223372036854775807) (h1' : -9223372036854775808 ≤ n') (h2' : n' ≤ 9223372036854775807) (e1 : termOk k bs n s = false) (e2 : termOk k' bs' n' s' = false) :
    Calls Try.prog 12 #[.agg #[.int .i64 k, .slice a len cap, .int .i64 n, .int .i64 s], .agg #[.int .i64 k', .slice a' len' cap', .int .i64 n', .int .i64 s']] w fun e w' =>
      e = .returned (.int .i64 (cmpT (termOk k bs n s) (termOk k' bs' n' s') (cmp3 (cmpI k k') (cmpB bs bs') (cmpN n s.toNat n' s'.toNat)))) ∧ Below w.heap.size w w' := by
  have ok1 := fun w hB => specTermOk_any k n s a len cap bs w hB h1 h2
  have ok2 := fun w hB => specTermOk_any k' n' s' a' len' cap' bs' w hB h1' h2'
  have ec : Hid (∀ c, cmpT (termOk k bs n s) (termOk k' bs' n' s') c = 0) := by intro c; simp [cmpT, e1, e2]
  simp only [e1, e2] at ok1 ok2
  go_enter Try.func12, Try.ntmps12
  go_wp2_with fail
  refine (ok1 _ (hB.below (bl_alloc (bl_a _) _))).mono ?_
  rintro e w1 ⟨rfl, o1, rfl⟩
  go_wp2_with fail
  go_region_with
    (first
      | (go_at_call 8; with_reducible refine (ok1 _ (hB.below (by repeat (first | with_reducible exact Below.refl _ _ | with_reducible apply bl_alloc | with_reducible apply Below.drew | with_reducible apply below_drewN)))).mono ?_; rintro e w3 ⟨rfl, o3, rfl⟩)
      | (go_at_call 8; with_reducible refine (ok2 _ (hB'.below (by repeat (first | with_reducible exact Below.refl _ _ | with_reducible apply bl_alloc | with_reducible apply Below.drew | with_reducible apply below_drewN)))).mono ?_; rintro e w4 ⟨rfl, o4, rfl⟩)
      | (go_at_call 29; refine (side_any _ _ _).mono ?_; rintro e w5 ⟨rfl, rfl⟩))
  all_goals (go_wp2; go_ret; refine ⟨by rw [ec.out]; rfl, ?_⟩; repeat (first | with_reducible exact Below.refl _ _ | with_reducible apply bl_alloc | with_reducible apply Below.drew | with_reducible apply below_drewN))
end Go.Proofs.Ytjacldecbmhgeae
