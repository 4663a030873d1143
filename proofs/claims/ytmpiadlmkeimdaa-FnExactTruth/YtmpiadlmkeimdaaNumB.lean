/- The contracts of Num, of the model and of the program, and FnExactNum. -/
import Derived.Test.YtmpiadlmkeimdaaNumA
namespace Go.Proofs.Ytmpiadlmkeimdaa
open Go.RowKit

/-- The number's parts at whatever scale: (0, 7) is none. -/
def numP (n s : Int) : Int × Int := if 0 ≤ s ∧ s ≤ 6 then norm s.toNat n else (0, 7)

theorem eq0 (w : World) : Calls Try.prog 15 #[.slice none 0 0, .slice none 0 0] w fun e w' => e = .returned (.bool true) ∧ w' = w := by
  go_enter Try.func15, Try.ntmps15
  go_wp2
  refine wp_loop_rounds 1 ?_
  rw [rounds_succ]
  go_wp2
  go_ret
  exact ⟨rfl, rfl⟩
/-- Two terms without a text whose fields are the same are the same. -/
theorem eqTerm0 (k n s : Int) (w : World) : Calls Try.prog 8 #[.agg #[.int .i64 k, .slice none 0 0, .int .i64 n, .int .i64 s], .agg #[.int .i64 k, .slice none 0 0, .int .i64 n, .int .i64 s]] w fun e w' =>
    e = .returned (.bool true) ∧ ∃ o1 o2, w' = (w.alloc o1).alloc o2 := by
  go_enter Try.func8, Try.ntmps8
  go_wp2_with (go_at_call 15; refine (eq0 _).mono ?_; rintro e w1 ⟨rfl, rfl⟩)
  go_ret
  exact ⟨rfl, _, _, rfl⟩
end Go.Proofs.Ytmpiadlmkeimdaa
