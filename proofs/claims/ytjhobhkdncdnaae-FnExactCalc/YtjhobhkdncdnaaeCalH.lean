/- The model's l1calc: quotients. -/
import Derived.Test.YtjhobhkdncdnaaeCalGa
import Derived.Test.YtjhobhkdncdnaaeCalGb
import Derived.Test.YtjhobhkdncdnaaeCalGc
import Derived.Test.YtjhobhkdncdnaaeCalGd
namespace Go.Proofs.Ytjhobhkdncdnaae
open Go.RowKit Go.Deep

theorem l1div_any (k k' n n' : Int) (s s' : Nat) (a a' : Option Addr) (len cap len' cap' : Nat) (w : World) (h1 : -1000000000000000 ≤ n) (h2 : n ≤ 1000000000000000) (h1' : -1000000000000000 ≤ n') (h2' : n' ≤ 1000000000000000) (hs : s ≤ 6) (hs' : s' ≤ 6) (hn' : n' ≠ 0) :
    Calls Try.prog 50 #[.agg #[.int .i64 k, .slice a len cap, .int .i64 n, .int .i64 s], .agg #[.int .i64 k', .slice a' len' cap', .int .i64 n', .int .i64 s']] w fun e w' => e = .returned (resV (divP n s n' s')) ∧ Below w.heap.size w w' := by
  by_cases m1 : n < 0
  · by_cases m2 : n' < 0
    · exact l1div_nn k k' n n' s s' a a' len cap len' cap' w h1 h2 h1' h2' hs hs' hn' m1 m2
    · exact l1div_np k k' n n' s s' a a' len cap len' cap' w h1 h2 h1' h2' hs hs' hn' m1 m2
  · by_cases m2 : n' < 0
    · exact l1div_pn k k' n n' s s' a a' len cap len' cap' w h1 h2 h1' h2' hs hs' hn' m1 m2
    · exact l1div_pp k k' n n' s s' a a' len cap len' cap' w h1 h2 h1' h2' hs hs' hn' m1 m2
theorem calcP_div (n : Int) (s : Nat) (n' : Int) (s' : Nat) (h : n' ≠ 0) : calcP 3 n s n' s' = divP n s n' s' := by
  unfold calcP divP
  rw [if_neg (by decide), if_neg (by decide), if_neg (by decide), if_pos rfl]
  have e : (n' != 0) = true := by simp [h]
  rw [e, Bool.and_true]
theorem calcP_div0 (n : Int) (s s' : Nat) : calcP 3 n s 0 s' = (0, 7) := by
  unfold calcP
  rw [if_neg (by decide), if_neg (by decide), if_neg (by decide), if_pos rfl]
  simp

set_option maxHeartbeats 1000000 in
theorem l1calc_div (k k' n n' : Int) (s s' : Nat) (a a' : Option Addr) (len cap len' cap' : Nat) (w : World) (h1 : -1000000000000000 ≤ n) (h2 : n ≤ 1000000000000000) (h1' : -1000000000000000 ≤ n') (h2' : n' ≤ 1000000000000000) (hs : s ≤ 6) (hs' : s' ≤ 6) :
    Calls Try.prog 39 #[.int .i64 3, .agg #[.int .i64 k, .slice a len cap, .int .i64 n, .int .i64 s], .agg #[.int .i64 k', .slice a' len' cap', .int .i64 n', .int .i64 s']] w fun e w' => e = .returned (resV (calcP 3 n s n' s')) ∧ Below w.heap.size w w' := by
  by_cases hn' : n' = 0
  · subst hn'
    have EC : resV (calcP 3 n s 0 s') = .tuple #[.agg #[.int .i64 0, .slice none 0 0, .int .i64 0, .int .i64 0], .bool false] := by rw [calcP_div0]; exact resV_none
    rw [EC]
    by_cases hsc : (s : Int) < s'
    · go_enter Try.func39, Try.ntmps39
      go_wp2
      refine bodyPost_ret (v := .tuple #[.agg #[.int .i64 0, .slice none 0 0, .int .i64 0, .int .i64 0], .bool false]) (by simp [results, Try.results39, go_sem]) rfl ⟨rfl, bl_alloc (bl_alloc (bl_a _) _) _⟩
    · go_enter Try.func39, Try.ntmps39
      go_wp2
      refine bodyPost_ret (v := .tuple #[.agg #[.int .i64 0, .slice none 0 0, .int .i64 0, .int .i64 0], .bool false]) (by simp [results, Try.results39, go_sem]) rfl ⟨rfl, bl_alloc (bl_alloc (bl_a _) _) _⟩
  · have D := fun w => l1div_any k k' n n' s s' a a' len cap len' cap' w h1 h2 h1' h2' hs hs' hn'
    rw [calcP_div n s n' s' hn']
    have hz : (n' == 0) = false := by simp [hn']
    have EF : Hid (resV (divP n s n' s') = .tuple #[.agg #[.int .i64 (tK (divP n s n' s')), .slice none 0 0, .int .i64 (tN (divP n s n' s')), .int .i64 (tS (divP n s n' s'))], .bool (numOk (divP n s n' s').1 (divP n s n' s').2)]) := rfl
    rw [EF.out] at D
    generalize tK (divP n s n' s') = z1 at *
    generalize tN (divP n s n' s') = z2 at *
    generalize tS (divP n s n' s') = z3 at *
    generalize numOk (divP n s n' s').1 (divP n s n' s').2 = z4 at *
    clear hn'
    by_cases hsc : (s : Int) < s'
    · go_enter Try.func39, Try.ntmps39
      go_wp2_with fail
      refine (D _).mono ?_
      rintro e w6 ⟨rfl, hb6⟩
      have hR6 := (Own4.at ((w.alloc _).alloc _) (w.heap.size + 1 + 1) _ _ _ _ _ (by simp)).below hb6
      have hw6 := bl_trans (bl_alloc (bl_alloc (bl_a _) _) _) hb6
      clear hb6 D
      obtain ⟨⟨r0, r1, r2, r3, r4⟩, f0, f1, f2, f3⟩ := id hR6
      go_wp2
      refine bodyPost_ret (v := .tuple #[.agg #[.int .i64 z1, .slice none 0 0, .int .i64 z2, .int .i64 z3], .bool z4]) (by simp [results, Try.results39, go_sem, *]) rfl ⟨by rw [EF.out], ?_⟩
      repeat (first | with_reducible exact hw6 | with_reducible refine bl_set ?_ (by dsimp only; omega) _)
    · go_enter Try.func39, Try.ntmps39
      go_wp2_with fail
      refine (D _).mono ?_
      rintro e w6 ⟨rfl, hb6⟩
      have hR6 := (Own4.at ((w.alloc _).alloc _) (w.heap.size + 1 + 1) _ _ _ _ _ (by simp)).below hb6
      have hw6 := bl_trans (bl_alloc (bl_alloc (bl_a _) _) _) hb6
      clear hb6 D
      obtain ⟨⟨r0, r1, r2, r3, r4⟩, f0, f1, f2, f3⟩ := id hR6
      go_wp2
      refine bodyPost_ret (v := .tuple #[.agg #[.int .i64 z1, .slice none 0 0, .int .i64 z2, .int .i64 z3], .bool z4]) (by simp [results, Try.results39, go_sem, *]) rfl ⟨by rw [EF.out], ?_⟩
      repeat (first | with_reducible exact hw6 | with_reducible refine bl_set ?_ (by dsimp only; omega) _)
end Go.Proofs.Ytjhobhkdncdnaae
