/- The model's Compare in one contract; the law FnExactCompare walked. -/
import Derived.Test.YtjacldecbmhgeaeCmpG
import Derived.Test.YtjacldecbmhgeaeCmpH
import Derived.Test.YtjacldecbmhgeaeCmpI
namespace Go.Proofs.Ytjacldecbmhgeae
open Go.RowKit Go.Deep

theorem specCompare_any (k n s k' n' s' : Int) (a a' : Option Addr) (len cap len' cap' : Nat) (bs bs' : List Int) (w : World)
    (hB : Bs w a len bs) (hB' : Bs w a' len' bs') (h1 : -9223372036854775808 ≤ n) (h2 : n ≤ 9223372036854775807) (h1' : -9223372036854775808 ≤ n') (h2' : n' ≤ 9223372036854775807) :
    Calls Try.prog 12 #[.agg #[.int .i64 k, .slice a len cap, .int .i64 n, .int .i64 s], .agg #[.int .i64 k', .slice a' len' cap', .int .i64 n', .int .i64 s']] w fun e w' =>
      e = .returned (.int .i64 (cmpT (termOk k bs n s) (termOk k' bs' n' s') (cmp3 (cmpI k k') (cmpB bs bs') (cmpN n s.toNat n' s'.toNat)))) ∧ Below w.heap.size w w' := by
  cases e1 : termOk k bs n s <;> cases e2 : termOk k' bs' n' s'
  · have := specCompare_nn k n s k' n' s' a a' len cap len' cap' bs bs' w hB hB' h1 h2 h1' h2' e1 e2
    rw [e1, e2] at this; exact this
  · have := specCompare_no k n s k' n' s' a a' len cap len' cap' bs bs' w hB hB' h1 h2 h1' h2' e1 e2
    rw [e1, e2] at this; exact this
  · have := specCompare_on k n s k' n' s' a a' len cap len' cap' bs bs' w hB hB' h1 h2 h1' h2' e1 e2
    rw [e1, e2] at this; exact this
  · have := specCompare_oo k n s k' n' s' a a' len cap len' cap' bs bs' w hB hB' h1 h2 h1' h2' e1 e2
    rw [e1, e2] at this; exact this

theorem leftOf_neg {l : Int} {len : Nat} (h : l < len) : leftOf l len = -1 := by unfold leftOf; rw [if_pos h]
theorem leftOf_pos {l : Int} {len : Nat} (h : ¬ l < len) : leftOf l len = l - len := by unfold leftOf; rw [if_neg h]
theorem cell_drew {w : World} : Below w.heap.size w w.drew := Below.drew (Below.refl _ _)

set_option maxHeartbeats 4000000 in
theorem walkCompare (k n s k' n' s' : Int) (a a' : Option Addr) (len cap len' cap' : Nat) (bs bs' : List Int) (w : World) (hB : len ≤ 1048576 → Bs w a len bs) (hB' : len' ≤ 1048576 → Bs w a' len' bs') (hlm : len ≤ 9223372036854775807) (hlm' : len' ≤ 9223372036854775807)
    (h1 : -9223372036854775808 ≤ n) (h2 : n ≤ 9223372036854775807) (h3 : -9223372036854775808 ≤ s) (h4 : s ≤ 9223372036854775807) (h1' : -9223372036854775808 ≤ n') (h2' : n' ≤ 9223372036854775807) (h3' : -9223372036854775808 ≤ s') (h4' : s' ≤ 9223372036854775807) :
    Calls Try.prog 4 #[.agg #[.int .i64 k, .slice a len cap, .int .i64 n, .int .i64 s], .agg #[.int .i64 k', .slice a' len' cap', .int .i64 n', .int .i64 s']] w fun e w' => e = .returned (.bool true) ∧ Below w.heap.size w w' := by
  by_cases hle : 1048576 < len
  · have hz := leftOf_neg (l := 1048576) (len := len) (by omega)
    clear hB hB'
    go_enter Try.func4, Try.ntmps4
    go_wp2_with fail
    refine (szTerm_any k n s a len cap 1048576 _ (by omega) (by omega) hlm).mono ?_
    rintro e w1 ⟨rfl, hb1⟩
    go_wp2
    go_ret
    exact ⟨rfl, bl_trans (bl_alloc (bl_a _) _) hb1⟩
  have hz := leftOf_pos (l := 1048576) (len := len) (by omega)
  by_cases hle' : 1048576 - (len : Int) < len'
  · have hz' := leftOf_neg (l := 1048576 - (len : Int)) (len := len') (by omega)
    clear hB hB'
    go_enter Try.func4, Try.ntmps4
    go_wp2_with fail
    refine (szTerm_any k n s a len cap 1048576 _ (by omega) (by omega) hlm).mono ?_
    rintro e w1 ⟨rfl, hb1⟩
    have hX1 := (At4.at (w.alloc _) (w.heap.size + 1) _ _ _ _ _ (by simp)).below hb1
    obtain ⟨x0, x1, x2, x3, x4⟩ := id hX1
    have hw1 := bl_trans (bl_alloc (bl_a _) _) hb1
    clear hb1
    go_wp2_with fail
    refine (szTerm_any k' n' s' a' len' cap' (1048576 - (len : Int)) _ (by omega) (by omega) hlm').mono ?_
    rintro e w2 ⟨rfl, hb2⟩
    go_wp2
    go_ret
    exact ⟨rfl, bl_trans hw1 hb2⟩
  have hz' := leftOf_pos (l := 1048576 - (len : Int)) (len := len') (by omega)
  have hB := hB (by omega)
  have hB' := hB' (by omega)
  have tA := fun w hB => toTerm_any k n s a len cap bs w hB
  have tB := fun w hB => toTerm_any k' n' s' a' len' cap' bs' w hB
  go_enter Try.func4, Try.ntmps4
  go_wp2_with fail
  refine (szTerm_any k n s a len cap 1048576 _ (by omega) (by omega) hlm).mono ?_
  rintro e w1 ⟨rfl, hb1⟩
  have hA1 := (At4.new w _ _ _ _ _).below (bl_trans (bl_a _) hb1)
  have hX1 := (At4.at (w.alloc _) (w.heap.size + 1) _ _ _ _ _ (by simp)).below hb1
  have hw1 := bl_trans (bl_alloc (bl_a _) _) hb1
  clear hb1
  obtain ⟨x0, x1, x2, x3, x4⟩ := id hX1
  go_wp2_with fail
  refine (szTerm_any k' n' s' a' len' cap' (1048576 - (len : Int)) _ (by omega) (by omega) hlm').mono ?_
  rintro e w2 ⟨rfl, hb2⟩
  have hA2 := hA1.below hb2
  have hX2 := hX1.below hb2
  have hw2 := bl_trans hw1 hb2
  have hB2 := hB.below hw2
  have hB2' := hB'.below hw2
  clear hb2 hA1 hX1 hw1 x0 x1 x2 x3 x4 hB hB'
  obtain ⟨y0, y1, y2, y3, y4⟩ := id hA2
  obtain ⟨x0, x1, x2, x3, x4⟩ := id hX2
  go_wp2_with fail
  have tok1 : True := trivial
  go_region_held3 (fun w' => w'.cell? ⟨w.heap.size, 0, none⟩ = some (.int .i64 k) ∧ w'.cell? ⟨w.heap.size, 1, none⟩ = some (.slice a len cap) ∧ w'.cell? ⟨w.heap.size, 2, none⟩ = some (.int .i64 n) ∧ w'.cell? ⟨w.heap.size, 3, none⟩ = some (.int .i64 s) ∧ w'.cell? ⟨w.heap.size + 1, 0, none⟩ = some (.int .i64 k') ∧ w'.cell? ⟨w.heap.size + 1, 1, none⟩ = some (.slice a' len' cap') ∧ w'.cell? ⟨w.heap.size + 1, 2, none⟩ = some (.int .i64 n') ∧ w'.cell? ⟨w.heap.size + 1, 3, none⟩ = some (.int .i64 s')) (simp [*, go_sem])
    (first
      | (go_at_call 9; have _t := tok1; refine (tA _ (hB2.below cell_drew)).mono ?_; rintro e w3 ⟨g3, rfl, hG3, hb3⟩; clear tok1; have hd3 := bl_trans cell_drew hb3; have hA3 := hA2.below hd3; have hX3 := hX2.below hd3; have hB3 := hB2.below hd3; have hB3' := hB2'.below hd3; have hw3 := bl_trans hw2 hd3; clear hb3 hd3; obtain ⟨y0, y1, y2, y3, y4⟩ := id hA3; obtain ⟨x0, x1, x2, x3, x4⟩ := id hX3)
      | (go_at_call 9; refine (tB _ hB3').mono ?_; rintro e w4 ⟨g4, rfl, hG4, hb4⟩; have hA4 := hA3.below hb4; have hX4 := hX3.below hb4; have hB4 := hB3.below hb4; have hB4' := hB3'.below hb4; have hG3' := hG3.below hb4; have hw4 := bl_trans hw3 hb4; clear hb4; obtain ⟨y0, y1, y2, y3, y4⟩ := id hA4; obtain ⟨x0, x1, x2, x3, x4⟩ := id hX4)
      | (go_at_call 12; refine (specCompare_any k n s k' n' s' _ _ len len len' len' bs bs' _ hG3' hG4 h1 h2 h1' h2').mono ?_; rintro e w5 ⟨rfl, hb5⟩; have hA5 := hA4.below hb5; have hX5 := hX4.below hb5; have hB5 := hB4.below hb5; have hB5' := hB4'.below hb5; have hw5 := bl_trans hw4 hb5; clear hb5; obtain ⟨y0, y1, y2, y3, y4⟩ := id hA5; obtain ⟨x0, x1, x2, x3, x4⟩ := id hX5))
  go_wp2_with fail
  refine (tA _ hB5).mono ?_
  rintro e w6 ⟨g6, rfl, hG6, hb6⟩
  have hA6 := (hA5.below hb6).below (bl_a (.cells #[.int .i64 k, .slice (some ⟨g6, 0, none⟩) len len, .int .i64 n, .int .i64 s] 27))
  have hX6 := (hX5.below hb6).below (bl_a (.cells #[.int .i64 k, .slice (some ⟨g6, 0, none⟩) len len, .int .i64 n, .int .i64 s] 27))
  have hB6 := (hB5.below hb6).below (bl_a (.cells #[.int .i64 k, .slice (some ⟨g6, 0, none⟩) len len, .int .i64 n, .int .i64 s] 27))
  have hB6' := (hB5'.below hb6).below (bl_a (.cells #[.int .i64 k, .slice (some ⟨g6, 0, none⟩) len len, .int .i64 n, .int .i64 s] 27))
  have hT6 := hG6.below (bl_a (.cells #[.int .i64 k, .slice (some ⟨g6, 0, none⟩) len len, .int .i64 n, .int .i64 s] 27))
  have hP6 := At4.new w6 (.int .i64 k) (.slice (some ⟨g6, 0, none⟩) len len) (.int .i64 n) (.int .i64 s) 27
  have hw6 := bl_trans (bl_trans hw5 hb6) (bl_a (.cells #[.int .i64 k, .slice (some ⟨g6, 0, none⟩) len len, .int .i64 n, .int .i64 s] 27))
  clear hb6 hG6 hA5 hX5 hB5 hB5' hw5 hA4 hX4 hB4 hB4' hw4 hA3 hX3 hB3 hB3' hw3 hA2 hX2 hB2 hB2' hw2 hG3 hG3' hG4
  clear y0 y1 y2 y3 y4 x0 x1 x2 x3 x4
  obtain ⟨x0, x1, x2, x3, x4⟩ := id hX6
  go_wp2_with fail
  refine (tB _ hB6').mono ?_
  rintro e w7 ⟨g7, rfl, hG7, hb7⟩
  have hA7 := (hA6.below hb7).below (bl_a (.cells #[.int .i64 k', .slice (some ⟨g7, 0, none⟩) len' len', .int .i64 n', .int .i64 s'] 27))
  have hX7 := (hX6.below hb7).below (bl_a (.cells #[.int .i64 k', .slice (some ⟨g7, 0, none⟩) len' len', .int .i64 n', .int .i64 s'] 27))
  have hB7 := (hB6.below hb7).below (bl_a (.cells #[.int .i64 k', .slice (some ⟨g7, 0, none⟩) len' len', .int .i64 n', .int .i64 s'] 27))
  have hB7' := (hB6'.below hb7).below (bl_a (.cells #[.int .i64 k', .slice (some ⟨g7, 0, none⟩) len' len', .int .i64 n', .int .i64 s'] 27))
  have hT7 := (hT6.below hb7).below (bl_a (.cells #[.int .i64 k', .slice (some ⟨g7, 0, none⟩) len' len', .int .i64 n', .int .i64 s'] 27))
  have hU7 := hG7.below (bl_a (.cells #[.int .i64 k', .slice (some ⟨g7, 0, none⟩) len' len', .int .i64 n', .int .i64 s'] 27))
  have hP7 := (hP6.below hb7).below (bl_a (.cells #[.int .i64 k', .slice (some ⟨g7, 0, none⟩) len' len', .int .i64 n', .int .i64 s'] 27))
  have hQ7 := At4.new w7 (.int .i64 k') (.slice (some ⟨g7, 0, none⟩) len' len') (.int .i64 n') (.int .i64 s') 27
  have hw7 := bl_trans (bl_trans hw6 hb7) (bl_a (.cells #[.int .i64 k', .slice (some ⟨g7, 0, none⟩) len' len', .int .i64 n', .int .i64 s'] 27))
  clear hb7 hG7 hA6 hX6 hB6 hB6' hT6 hP6 hw6 x0 x1 x2 x3 x4
  obtain ⟨p0, p1, p2, p3, p4⟩ := id hP7
  obtain ⟨q0, q1, q2, q3, q4⟩ := id hQ7
  go_wp2_with fail
  refine (implCompare_any k n s k' n' s' _ _ len len len' len' bs bs' _ hT7 hU7 h1 h2 h3 h4 h1' h2' h3' h4').mono ?_
  rintro e w8 ⟨rfl, hb8⟩
  have hA8 := hA7.below hb8
  have hX8 := hX7.below hb8
  have hB8 := hB7.below hb8
  have hB8' := hB7'.below hb8
  have hT8 := hT7.below hb8
  have hU8 := hU7.below hb8
  have hP8 := hP7.below hb8
  have hQ8 := hQ7.below hb8
  have hw8 := bl_trans hw7 hb8
  clear hb8 hA7 hX7 hB7 hB7' hT7 hU7 hP7 hQ7 hw7 p0 p1 p2 p3 p4 q0 q1 q2 q3 q4
  obtain ⟨p0, p1, p2, p3, p4⟩ := id hP8
  obtain ⟨y0, y1, y2, y3, y4⟩ := id hA8
  go_wp2_with fail
  go_region_held3 (fun w' => w'.cell? ⟨w6.heap.size, 0, none⟩ = some (.int .i64 k) ∧ w'.cell? ⟨w6.heap.size, 1, none⟩ = some (.slice (some ⟨g6, 0, none⟩) len len) ∧ w'.cell? ⟨w6.heap.size, 2, none⟩ = some (.int .i64 n) ∧ w'.cell? ⟨w6.heap.size, 3, none⟩ = some (.int .i64 s) ∧ w'.cell? ⟨w.heap.size, 0, none⟩ = some (.int .i64 k) ∧ w'.cell? ⟨w.heap.size, 1, none⟩ = some (.slice a len cap) ∧ w'.cell? ⟨w.heap.size, 2, none⟩ = some (.int .i64 n) ∧ w'.cell? ⟨w.heap.size, 3, none⟩ = some (.int .i64 s)) (simp [*, go_sem])
    (first
      | (go_at_call 9; refine (tA _ (hB8.below cell_drew)).mono ?_; rintro e w9 ⟨g9, rfl, hG9, hb9⟩; have hd9 := bl_trans cell_drew hb9; have hA9 := hA8.below hd9; have hX9 := hX8.below hd9; have hB9' := hB8'.below hd9; have hT9 := hT8.below hd9; have hU9 := hU8.below hd9; have hP9 := hP8.below hd9; have hQ9 := hQ8.below hd9; have hw9 := bl_trans hw8 hd9; clear hb9 hd9; obtain ⟨p0, p1, p2, p3, p4⟩ := id hP9; obtain ⟨y0, y1, y2, y3, y4⟩ := id hA9)
      | (go_at_call 11; refine (eqTerm_any k n s k n s _ _ len len len len bs bs _ hT9 hG9).mono ?_; rintro e w10 ⟨rfl, hb10⟩; have hA10 := hA9.below hb10; have hP10 := hP9.below hb10; have hX10 := hX9.below hb10; have hB10' := hB9'.below hb10; have hU10 := hU9.below hb10; have hQ10 := hQ9.below hb10; have hw10 := bl_trans hw9 hb10; clear hb10; obtain ⟨p0, p1, p2, p3, p4⟩ := id hP10; obtain ⟨y0, y1, y2, y3, y4⟩ := id hA10))
  clear hA8 hX8 hB8 hB8' hT8 hU8 hP8 hQ8 hw8 hA9 hX9 hB9' hT9 hU9 hP9 hQ9 hw9 hG9 hA10 hP10
  clear p0 p1 p2 p3 p4 y0 y1 y2 y3 y4
  obtain ⟨q0, q1, q2, q3, q4⟩ := id hQ10
  obtain ⟨x0, x1, x2, x3, x4⟩ := id hX10
  go_wp2_with fail
  go_region_held3 (fun w' => w'.cell? ⟨w7.heap.size, 0, none⟩ = some (.int .i64 k') ∧ w'.cell? ⟨w7.heap.size, 1, none⟩ = some (.slice (some ⟨g7, 0, none⟩) len' len') ∧ w'.cell? ⟨w7.heap.size, 2, none⟩ = some (.int .i64 n') ∧ w'.cell? ⟨w7.heap.size, 3, none⟩ = some (.int .i64 s') ∧ w'.cell? ⟨w.heap.size + 1, 0, none⟩ = some (.int .i64 k') ∧ w'.cell? ⟨w.heap.size + 1, 1, none⟩ = some (.slice a' len' cap') ∧ w'.cell? ⟨w.heap.size + 1, 2, none⟩ = some (.int .i64 n') ∧ w'.cell? ⟨w.heap.size + 1, 3, none⟩ = some (.int .i64 s')) (simp [*, go_sem])
    (first
      | (go_at_call 9; refine (tB _ (hB10'.below cell_drew)).mono ?_; rintro e w11 ⟨g11, rfl, hG11, hb11⟩; have hd11 := bl_trans cell_drew hb11; have hX11 := hX10.below hd11; have hU11 := hU10.below hd11; have hQ11 := hQ10.below hd11; have hw11 := bl_trans hw10 hd11; clear hb11 hd11; obtain ⟨q0, q1, q2, q3, q4⟩ := id hQ11; obtain ⟨x0, x1, x2, x3, x4⟩ := id hX11)
      | (go_at_call 11; refine (eqTerm_any k' n' s' k' n' s' _ _ len' len' len' len' bs' bs' _ hU11 hG11).mono ?_; rintro e w12 ⟨rfl, hb12⟩; have hX12 := hX11.below hb12; have hQ12 := hQ11.below hb12; have hw12 := bl_trans hw11 hb12; clear hb12; obtain ⟨q0, q1, q2, q3, q4⟩ := id hQ12; obtain ⟨x0, x1, x2, x3, x4⟩ := id hX12))
  go_wp2
  go_ret
  exact ⟨rfl, hw12⟩
end Go.Proofs.Ytjacldecbmhgeae
