/- The contracts of the model's l1sum, l1div and l1calc. -/
import Derived.Test.YtjhobhkdncdnaaeCalD
import Derived.Test.YtjhobhkdncdnaaeCmpE
namespace Go.Proofs.Ytjhobhkdncdnaae
open Go.RowKit Go.Deep

theorem norm_idem (s : Nat) (n : Int) : norm (norm s n).2.toNat (norm s n).1 = norm s n := by
  induction s generalizing n with
  | zero => rfl
  | succ s ih =>
    by_cases h : n.tmod 10 = 0
    · have e : norm (s + 1) n = norm s (n.tdiv 10) := by simp [norm, h]
      rw [e]; exact ih _
    · have e : norm (s + 1) n = (n, (s : Int) + 1) := by simp [norm, h]
      rw [e]
      show norm ((s : Int) + 1).toNat n = _
      have e2 : ((s : Int) + 1).toNat = s + 1 := by omega
      rw [e2, e]
theorem numP_norm (s : Nat) (n : Int) (h : (norm s n).2 ≤ 6) (h1 : -9223372036854775808 ≤ n) (h2 : n ≤ 9223372036854775807) : numP (norm s n).1 (norm s n).2 = norm s n := by
  have b := norm_bounds s n h1 h2
  unfold numP
  rw [if_pos ⟨b.2.2.1, h⟩, norm_idem]
theorem resV_over (p : Int × Int) (h : 6 < p.2) : resV p = resV (0, 7) := by
  have e : numOk p.1 p.2 = false := by
    rw [Bool.eq_false_iff]
    intro hh
    simp [numOk] at hh
    omega
  rw [resV_none]
  unfold resV tK tN tS
  rw [e]
  rfl

set_option maxHeartbeats 1000000 in
theorem l1sum_any (x y : Int) (S : Nat) (w : World) (hS : S ≤ 6) (h1 : -9000000000000000000 ≤ x + y) (h2 : x + y ≤ 9000000000000000000) (hx : -9000000000000000000 ≤ x ∧ x ≤ 9000000000000000000) (_hy : -9000000000000000000 ≤ y ∧ y ≤ 9000000000000000000) :
    Calls Try.prog 52 #[.int .i64 x, .int .i64 y, .int .i64 S] w fun e w' => e = .returned (resV (norm S (x + y))) ∧ Below w.heap.size w w' := by
  have Nm := fun w => specNum_any (x + y) S w (by omega) (by omega)
  have ep : numP (x + y) S = norm S (x + y) := by unfold numP; rw [if_pos ⟨by omega, by omega⟩]; rfl
  rw [ep] at Nm
  have ev : resV (norm S (x + y)) = .tuple #[.agg #[.int .i64 (tK (norm S (x + y))), .slice none 0 0, .int .i64 (tN (norm S (x + y))), .int .i64 (tS (norm S (x + y)))], .bool (numOk (norm S (x + y)).1 (norm S (x + y)).2)] := rfl
  rw [ev]
  generalize tK (norm S (x + y)) = a at *
  generalize tN (norm S (x + y)) = b at *
  generalize tS (norm S (x + y)) = c at *
  generalize numOk (norm S (x + y)).1 (norm S (x + y)).2 = d at *
  clear ev ep
  by_cases hx0 : 0 < x
  · go_enter Try.func52, Try.ntmps52
    go_wp2_with fail
    refine (Nm _).mono ?_
    rintro e w1 ⟨rfl, hb1⟩
    obtain ⟨⟨r0, r1, r2, r3, r4⟩, f0, f1, f2, f3⟩ := (Own4.at w w.heap.size _ _ _ _ _ rfl).below hb1
    have hw1 := bl_trans (bl_a _) hb1
    clear hb1 Nm
    go_wp2
    refine bodyPost_ret (v := .tuple #[.agg #[.int .i64 a, .slice none 0 0, .int .i64 b, .int .i64 c], .bool d]) (by simp [results, Try.results52, go_sem, *]) rfl ⟨rfl, ?_⟩
    repeat (first | with_reducible exact hw1 | with_reducible refine bl_set ?_ (by dsimp only; omega) _)
  by_cases hx1 : x < 0
  · go_enter Try.func52, Try.ntmps52
    go_wp2_with fail
    refine (Nm _).mono ?_
    rintro e w1 ⟨rfl, hb1⟩
    obtain ⟨⟨r0, r1, r2, r3, r4⟩, f0, f1, f2, f3⟩ := (Own4.at w w.heap.size _ _ _ _ _ rfl).below hb1
    have hw1 := bl_trans (bl_a _) hb1
    clear hb1 Nm
    go_wp2
    refine bodyPost_ret (v := .tuple #[.agg #[.int .i64 a, .slice none 0 0, .int .i64 b, .int .i64 c], .bool d]) (by simp [results, Try.results52, go_sem, *]) rfl ⟨rfl, ?_⟩
    repeat (first | with_reducible exact hw1 | with_reducible refine bl_set ?_ (by dsimp only; omega) _)
  · go_enter Try.func52, Try.ntmps52
    go_wp2_with fail
    refine (Nm _).mono ?_
    rintro e w1 ⟨rfl, hb1⟩
    obtain ⟨⟨r0, r1, r2, r3, r4⟩, f0, f1, f2, f3⟩ := (Own4.at w w.heap.size _ _ _ _ _ rfl).below hb1
    have hw1 := bl_trans (bl_a _) hb1
    clear hb1 Nm
    go_wp2
    refine bodyPost_ret (v := .tuple #[.agg #[.int .i64 a, .slice none 0 0, .int .i64 b, .int .i64 c], .bool d]) (by simp [results, Try.results52, go_sem, *]) rfl ⟨rfl, ?_⟩
    repeat (first | with_reducible exact hw1 | with_reducible refine bl_set ?_ (by dsimp only; omega) _)
end Go.Proofs.Ytjhobhkdncdnaae
