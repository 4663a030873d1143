/- The contracts of Num, of the model and of the program, and FnExactNum. -/
import Derived.Test.YtmpiadlmkeimdaaDoorNumA
namespace Go.Proofs.YtmpiadlmkeimdaaDoor
open Go.RowKit

/-- The number's parts at whatever scale: (0, 7) is none. -/
def numP (n s : Int) : Int × Int := if 0 ≤ s ∧ s ≤ 6 then norm s.toNat n else (0, 7)

theorem eq0 (w : World) : Calls Tryd.prog 9 #[.slice none 0 0, .slice none 0 0] w fun e w' => e = .returned (.bool true) ∧ w' = w := by
  go_enter Tryd.func9, Tryd.ntmps9
  go_wp2
  refine wp_loop_rounds 1 ?_
  rw [rounds_succ]
  go_wp2
  go_ret
  exact ⟨rfl, rfl⟩
theorem mark0 (k : Int) (w : World) : Calls Tryd.prog 12 #[.slice none 0 0, .int .i64 k] w fun e w' => e = .returned (.int .i64 k) ∧ w' = w := by
  go_enter Tryd.func12, Tryd.ntmps12
  go_wp2
  refine wp_loop_rounds 1 ?_
  rw [rounds_succ]
  go_wp2
  go_ret
  exact ⟨rfl, rfl⟩
theorem held0 (k : Int) (w : World) : Calls Tryd.prog 13 #[.slice none 0 0, .int .i64 k] w fun e w' => e = .returned (.int .i64 k) ∧ w' = w := by
  go_enter Tryd.func13, Tryd.ntmps13
  go_wp2
  refine wp_loop_rounds 1 ?_
  rw [rounds_succ]
  go_wp2
  go_ret
  exact ⟨rfl, rfl⟩

/-- Two terms without a text whose fields are the same are the same. -/
theorem eqTerm0 (k n s : Int) (w : World) : Calls Tryd.prog 10 #[.agg #[.int .i64 k, .slice none 0 0, .int .i64 n, .int .i64 s], .agg #[.int .i64 k, .slice none 0 0, .int .i64 n, .int .i64 s]] w fun e w' =>
    e = .returned (.bool true) ∧ ∃ o1 o2, w' = (w.alloc o1).alloc o2 := by
  go_enter Tryd.func10, Tryd.ntmps10
  go_wp2_with (go_at_call 9; refine (eq0 _).mono ?_; rintro e w1 ⟨rfl, rfl⟩)
  go_ret
  exact ⟨rfl, _, _, rfl⟩
theorem markTerm0 (k n s : Int) (q : Int) (w : World) : Calls Tryd.prog 11 #[.agg #[.int .i64 k, .slice none 0 0, .int .i64 n, .int .i64 s], .int .i64 q] w fun e w' =>
    e = .returned (.int .i64 q) ∧ ∃ o1, w' = w.alloc o1 := by
  go_enter Tryd.func11, Tryd.ntmps11
  go_wp2_with (go_at_call 12; refine (mark0 _ _).mono ?_; rintro e w1 ⟨rfl, rfl⟩)
  go_ret
  exact ⟨rfl, _, rfl⟩
end Go.Proofs.YtmpiadlmkeimdaaDoor
