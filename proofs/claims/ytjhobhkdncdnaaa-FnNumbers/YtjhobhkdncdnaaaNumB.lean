/- The contracts of Num, of the model and of the program, and FnExactNum. -/
import Derived.Test.YtjhobhkdncdnaaaNumA
namespace Go.Proofs.Ytjhobhkdncdnaaa
open Go.RowKit

/-- The number's parts at whatever scale: (0, 7) is none. -/
def numP (n s : Int) : Int × Int := if 0 ≤ s ∧ s ≤ 6 then norm s.toNat n else (0, 7)

theorem specNum_any (n s : Int) (w : World) (h1 : -9223372036854775808 ≤ n) (h2 : n ≤ 9223372036854775807) :
    Calls Try.prog 25 #[.int .i64 n, .int .i64 s] w fun e w' =>
      e = .returned (.tuple #[.agg #[.int .i64 (tK (numP n s)), .slice none 0 0, .int .i64 (tN (numP n s)), .int .i64 (tS (numP n s))], .bool (numOk (numP n s).1 (numP n s).2)]) ∧ Below w.heap.size w w' := by
  by_cases hs : 0 ≤ s ∧ s ≤ 6
  · obtain ⟨k, rfl⟩ : ∃ k : Nat, s = k := ⟨s.toNat, by omega⟩
    have hp : numP n k = norm k n := by simp [numP, hs]
    rw [hp]
    obtain ⟨b1, b2, b3, b4⟩ := norm_bounds k n h1 h2
    by_cases ok : numOk (norm k n).1 (norm k n).2 = true
    · go_enter Try.func25, Try.ntmps25
      go_wp2_with (first | (go_at_call 42; refine (l1norm_any n k _ h1 h2 (by omega)).mono ?_; rintro e w1 ⟨rfl, o1, rfl⟩) | (go_at_call 8; refine (specTermOk_num _ _ _ b1 b2 (by omega) (by omega)).mono ?_; rintro e w2 ⟨rfl, o2, rfl⟩))
      simp [bodyPost, results, Try.results25, go_sem, tK, tN, tS, ok]
      repeat (first | with_reducible exact Below.refl _ _ | with_reducible apply bl_alloc | with_reducible apply Below.drew)
    · go_enter Try.func25, Try.ntmps25
      go_wp2_with (first | (go_at_call 42; refine (l1norm_any n k _ h1 h2 (by omega)).mono ?_; rintro e w1 ⟨rfl, o1, rfl⟩) | (go_at_call 8; refine (specTermOk_num _ _ _ b1 b2 (by omega) (by omega)).mono ?_; rintro e w2 ⟨rfl, o2, rfl⟩))
      simp [bodyPost, results, Try.results25, go_sem, tK, tN, tS, ok]
      repeat (first | with_reducible exact Below.refl _ _ | with_reducible apply bl_alloc | with_reducible apply Below.drew)
  · have hp : numP n s = (0, 7) := by simp [numP, hs]
    rw [hp]
    by_cases h0 : 0 ≤ s
    · go_enter Try.func25, Try.ntmps25
      go_wp2
      simp [bodyPost, results, Try.results25, go_sem, tK, tN, tS, numOk]
      repeat (first | with_reducible exact Below.refl _ _ | with_reducible apply bl_alloc | with_reducible apply Below.drew)
    · go_enter Try.func25, Try.ntmps25
      go_wp2
      simp [bodyPost, results, Try.results25, go_sem, tK, tN, tS, numOk]
      repeat (first | with_reducible exact Below.refl _ _ | with_reducible apply bl_alloc | with_reducible apply Below.drew)

/-! The loops over an empty text: no round. -/
end Go.Proofs.Ytjhobhkdncdnaaa
