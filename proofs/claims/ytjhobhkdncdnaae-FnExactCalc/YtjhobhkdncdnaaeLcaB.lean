/- The law FnExactCalc walked. -/
import Derived.Test.YtjhobhkdncdnaaeLcaA
namespace Go.Proofs.Ytjhobhkdncdnaae
open Go.RowKit Go.Deep

set_option maxRecDepth 20000 in
set_option maxHeartbeats 8000000 in
theorem walkCalc (op k n s k' n' s' : Int) (a a' : Option Addr) (len cap len' cap' : Nat) (bs bs' : List Int) (w : World) (hB : len ≤ 1048576 → Bs w a len bs) (hB' : len' ≤ 1048576 → Bs w a' len' bs') (hlm : len ≤ 9223372036854775807) (hlm' : len' ≤ 9223372036854775807)
    (h1 : -9223372036854775808 ≤ n) (h2 : n ≤ 9223372036854775807) (h3 : -9223372036854775808 ≤ s) (h4 : s ≤ 9223372036854775807) (h1' : -9223372036854775808 ≤ n') (h2' : n' ≤ 9223372036854775807) (h3' : -9223372036854775808 ≤ s') (h4' : s' ≤ 9223372036854775807) :
    Calls Try.prog 6 #[.int .i64 op, .agg #[.int .i64 k, .slice a len cap, .int .i64 n, .int .i64 s], .agg #[.int .i64 k', .slice a' len' cap', .int .i64 n', .int .i64 s']] w fun e w' => e = .returned (.bool true) ∧ Below w.heap.size w w' := by
  by_cases hle : 1048576 < len
  · have hz := leftOf_negC (l := 1048576) (len := len) (by omega)
    clear hB hB'
    go_enter Try.func6, Try.ntmps6
    go_wp2_with fail
    refine (szTerm_any k n s a len cap 1048576 _ (by omega) (by omega) hlm).mono ?_
    rintro e w1 ⟨rfl, hb1⟩
    go_wp2
    go_ret
    exact ⟨rfl, bl_trans (bl_alloc (bl_a _) _) hb1⟩
  have hz := leftOf_posC (l := 1048576) (len := len) (by omega)
  by_cases hle' : 1048576 - (len : Int) < len'
  · have hz' := leftOf_negC (l := 1048576 - (len : Int)) (len := len') (by omega)
    clear hB hB'
    go_enter Try.func6, Try.ntmps6
    go_wp2_with fail
    refine (szTerm_any k n s a len cap 1048576 _ (by omega) (by omega) hlm).mono ?_
    rintro e w1 ⟨rfl, hb1⟩
    have hX1 := (At4.at (w.alloc _) (w.heap.size + 1) _ _ _ _ _ (by simp)).below hb1
    obtain ⟨x0, x1, x2, x3, x4⟩ := id hX1
    have hw1 := bl_trans (bl_alloc (bl_a _) _) hb1
    clear hb1
    go_wp2_with fail
    refine (szTerm_any k' n' s' a' len' cap' (1048576 - (len : Int)) _ (by omega) (by omega) hlm').mono ?_
    rintro e w2 ⟨rfl, hb2⟩
    go_wp2
    go_ret
    exact ⟨rfl, bl_trans hw1 hb2⟩
  have hz' := leftOf_posC (l := 1048576 - (len : Int)) (len := len') (by omega)
  have hB := hB (by omega)
  have hB' := hB' (by omega)
  have hle2 : len ≤ 1048576 := by omega
  have hle2' : len' ≤ 1048576 := by omega
  have uA := fun w hB => toTerm_new k n s a len cap bs w hB
  have uB := fun w hB => toTerm_new k' n' s' a' len' cap' bs' w hB
  obtain ⟨z1, z2, z3, z4, er⟩ : ∃ (z1 z2 z3 : Int) (z4 : Bool), resV (calcQ op k bs n s k' bs' n' s') = .tuple #[.agg #[.int .i64 z1, .slice none 0 0, .int .i64 z2, .int .i64 z3], .bool z4] := ⟨_, _, _, _, rfl⟩
  have Sc : ∀ (w : World) (g g' : Nat), Bs w (some ⟨g, 0, none⟩) len bs → Bs w (some ⟨g', 0, none⟩) len' bs' → Calls Try.prog 18 #[.int .i64 op, .agg #[.int .i64 k, .slice (some ⟨g, 0, none⟩) len len, .int .i64 n, .int .i64 s], .agg #[.int .i64 k', .slice (some ⟨g', 0, none⟩) len' len', .int .i64 n', .int .i64 s']] w fun e w' => e = .returned (.tuple #[.agg #[.int .i64 z1, .slice none 0 0, .int .i64 z2, .int .i64 z3], .bool z4]) ∧ Below w.heap.size w w' :=
    fun w g g' hG hG' => (specCalc_any op k n s k' n' s' _ _ len len len' len' bs bs' w hG hG' h1 h2 h1' h2').mono fun e w' h => ⟨h.1.trans (by rw [er]), h.2⟩
  have Ic : ∀ (w : World) (g g' : Nat), Bs w (some ⟨g, 0, none⟩) len bs → Bs w (some ⟨g', 0, none⟩) len' bs' → Calls Try.prog 19 #[.int .i64 op, .agg #[.int .i64 k, .slice (some ⟨g, 0, none⟩) len len, .int .i64 n, .int .i64 s], .agg #[.int .i64 k', .slice (some ⟨g', 0, none⟩) len' len', .int .i64 n', .int .i64 s']] w fun e w' => e = .returned (.tuple #[.agg #[.int .i64 z1, .slice none 0 0, .int .i64 z2, .int .i64 z3], .bool z4]) ∧ Below w.heap.size w w' :=
    fun w g g' hG hG' => (implCalc_any op k n s k' n' s' _ _ len len len' len' bs bs' w hG hG' h1 h2 h3 h4 h1' h2' h3' h4').mono fun e w' h => ⟨h.1.trans (by rw [er]), h.2⟩
  clear er h1 h2 h3 h4 h1' h2' h3' h4'
  go_enter Try.func6, Try.ntmps6
  go_wp2_with fail
  refine (szTerm_any k n s a len cap 1048576 _ (by omega) (by omega) hlm).mono ?_
  rintro e w1 ⟨rfl, hb1⟩
  have hA1 := (At4.new w _ _ _ _ _).below (bl_trans (bl_a _) hb1)
  have hX1 := (At4.at (w.alloc _) (w.heap.size + 1) _ _ _ _ _ (by simp)).below hb1
  have hw1 := bl_trans (bl_alloc (bl_a _) _) hb1
  clear hb1
  obtain ⟨x0, x1, x2, x3, x4⟩ := id hX1
  go_wp2_with fail
  refine (szTerm_any k' n' s' a' len' cap' (1048576 - (len : Int)) _ (by omega) (by omega) hlm').mono ?_
  rintro e w2 ⟨rfl, hb2⟩
  have hA := hA1.below hb2
  have hX := hX1.below hb2
  have hw2 := bl_trans hw1 hb2
  have hB := hB.below hw2
  have hB' := hB'.below hw2
  clear hb2 hA1 hX1 hw1 x0 x1 x2 x3 x4
  obtain ⟨y0, y1, y2, y3, y4⟩ := id hA
  obtain ⟨x0, x1, x2, x3, x4⟩ := id hX
  go_wp2_with fail
  go_cut [8, 9] from 19 to 123 (fun sa sb wx => ∃ g : Nat, sa = .pointer (some ⟨g, 0, none⟩) ∧ sb = .bool z4 ∧ Below w2.heap.size w2 wx ∧ At4 wx g (.int .i64 z1) (.slice none 0 0) (.int .i64 z2) (.int .i64 z3) ∧ w2.heap.size ≤ g)
  case first =>
    have tok1 : True := trivial
    go_region_held3 (fun w' => w'.cell? ⟨w.heap.size, 0, none⟩ = some (.int .i64 k) ∧ w'.cell? ⟨w.heap.size, 1, none⟩ = some (.slice a len cap) ∧ w'.cell? ⟨w.heap.size, 2, none⟩ = some (.int .i64 n) ∧ w'.cell? ⟨w.heap.size, 3, none⟩ = some (.int .i64 s) ∧ w'.cell? ⟨w.heap.size + 1, 0, none⟩ = some (.int .i64 k') ∧ w'.cell? ⟨w.heap.size + 1, 1, none⟩ = some (.slice a' len' cap') ∧ w'.cell? ⟨w.heap.size + 1, 2, none⟩ = some (.int .i64 n') ∧ w'.cell? ⟨w.heap.size + 1, 3, none⟩ = some (.int .i64 s')) ((refine KS_of hA hX ?_; (repeat (first | with_reducible assumption | with_reducible exact Below.refl _ _ | with_reducible apply bl_alloc | with_reducible apply Below.drew | with_reducible apply below_drewN | with_reducible refine bl_set ?_ (by dsimp only; omega) _))))
      (first
        | (go_at_call 9; have _t := tok1; refine (uA _ (hB.below (by (repeat (first | with_reducible assumption | with_reducible exact Below.refl _ _ | with_reducible apply bl_alloc | with_reducible apply Below.drew | with_reducible apply below_drewN))))).mono ?_; rintro e wa ⟨ga, rfl, hGa, _, hba⟩; clear tok1; have hda : Below w2.heap.size w2 wa := bl_trans (by (repeat (first | with_reducible assumption | with_reducible exact Below.refl _ _ | with_reducible apply bl_alloc | with_reducible apply Below.drew | with_reducible apply below_drewN))) hba; have hsa := hda.size; (first | (have hZ : Own4 wa _ (.int .i64 0) (.slice none 0 0) (.int .i64 0) (.int .i64 0) := Own4.below (Own4.at _ _ _ _ _ _ _ rfl) hba) | (have hZ : Own4 wa _ (.int .i64 0) (.slice none 0 0) (.int .i64 0) (.int .i64 0) := Own4.below (Own4.drew (Own4.at _ _ _ _ _ _ _ rfl)) hba) | skip); (try simp at hZ))
        | (go_at_call 9; refine (uB _ (hB'.below (by (repeat (first | with_reducible assumption | with_reducible exact Below.refl _ _ | with_reducible apply bl_alloc | with_reducible apply Below.drew | with_reducible apply below_drewN))))).mono ?_; rintro e wb ⟨gb, rfl, hGb, _, hbb⟩; have hdb : Below w2.heap.size w2 wb := bl_trans (by (repeat (first | with_reducible assumption | with_reducible exact Below.refl _ _ | with_reducible apply bl_alloc | with_reducible apply Below.drew | with_reducible apply below_drewN))) hbb; have hsb := hdb.size; (first | (have hZ : Own4 wb _ (.int .i64 0) (.slice none 0 0) (.int .i64 0) (.int .i64 0) := hZ.below (bl_trans (by (repeat (first | with_reducible assumption | with_reducible exact Below.refl _ _ | with_reducible apply bl_alloc | with_reducible apply Below.drew | with_reducible apply below_drewN))) hbb)) | (have hZ : Own4 wb _ (.int .i64 0) (.slice none 0 0) (.int .i64 0) (.int .i64 0) := Own4.below (Own4.at _ _ _ _ _ _ _ rfl) hbb) | (have hZ : Own4 wb _ (.int .i64 0) (.slice none 0 0) (.int .i64 0) (.int .i64 0) := Own4.below (Own4.drew (Own4.at _ _ _ _ _ _ _ rfl)) hbb) | skip); (try simp at hZ); have hGa' := hGa.1.below (bl_trans (by (repeat (first | with_reducible assumption | with_reducible exact Below.refl _ _ | with_reducible apply bl_alloc | with_reducible apply Below.drew | with_reducible apply below_drewN))) hbb))
        | (go_at_call 18; refine (Sc _ _ _ (hGa'.below (by (repeat (first | with_reducible assumption | with_reducible exact Below.refl _ _ | with_reducible apply bl_alloc | with_reducible apply Below.drew | with_reducible apply below_drewN)))) (hGb.1.below (by (repeat (first | with_reducible assumption | with_reducible exact Below.refl _ _ | with_reducible apply bl_alloc | with_reducible apply Below.drew | with_reducible apply below_drewN))))).mono ?_; rintro e w5 ⟨rfl, hb5⟩; have hd5 : Below w2.heap.size w2 w5 := bl_trans (by (repeat (first | with_reducible assumption | with_reducible exact Below.refl _ _ | with_reducible apply bl_alloc | with_reducible apply Below.drew | with_reducible apply below_drewN))) hb5; have hs5 := hd5.size; (first | (have hZ : Own4 w5 _ (.int .i64 0) (.slice none 0 0) (.int .i64 0) (.int .i64 0) := hZ.below (bl_trans (by (repeat (first | with_reducible assumption | with_reducible exact Below.refl _ _ | with_reducible apply bl_alloc | with_reducible apply Below.drew | with_reducible apply below_drewN))) hb5)) | (have hZ : Own4 w5 _ (.int .i64 0) (.slice none 0 0) (.int .i64 0) (.int .i64 0) := Own4.below (Own4.at _ _ _ _ _ _ _ rfl) hb5) | (have hZ : Own4 w5 _ (.int .i64 0) (.slice none 0 0) (.int .i64 0) (.int .i64 0) := Own4.below (Own4.drew (Own4.at _ _ _ _ _ _ _ rfl)) hb5) | skip); (try simp at hZ); (try (obtain ⟨⟨z0, za, zb, zc, zd⟩, zf, zg, zh, zi⟩ := id hZ))))
    all_goals
      go_wp2_with fail
      go_meet
    · exact ⟨_, rfl, rfl, bl_alloc hd5 _, At4.new w5 _ _ _ _ _, hs5⟩
    all_goals
      exact ⟨_, rfl, rfl, bl_set (bl_set (bl_set (bl_set hd5 (by dsimp only; omega) _) (by dsimp only; omega) _) (by dsimp only; omega) _) (by dsimp only; omega) _, (Own4.set hZ _ _ _ _).1, by omega⟩
  case rest =>
    obtain ⟨g, rfl, rfl, hd, hG, hgl⟩ := hcut
    have hAc := hA.below hd
    have hXc := hX.below hd
    have hBc := hB.below hd
    have hBc' := hB'.below hd
    have hwc := bl_trans hw2 hd
    clear y0 y1 y2 y3 y4 x0 x1 x2 x3 x4 hA hX hB hB' hw2 hd
    obtain ⟨y0, y1, y2, y3, y4⟩ := id hAc
    go_wp2_with fail
    refine (uA _ hBc).mono ?_
    rintro e w6 ⟨g6, rfl, hT6, hg6, hb6⟩
    have hd6 := bl_alloc hb6 (.cells #[.int .i64 k, .slice (some ⟨g6, 0, none⟩) len len, .int .i64 n, .int .i64 s] 27)
    have hs6 := hT6.2.1
    have hT6 := hT6.below (bl_a (.cells #[.int .i64 k, .slice (some ⟨g6, 0, none⟩) len len, .int .i64 n, .int .i64 s] 27))
    have hP6 := At4.new w6 (.int .i64 k) (.slice (some ⟨g6, 0, none⟩) len len) (.int .i64 n) (.int .i64 s) 27
    clear hb6 y0 y1 y2 y3 y4
    have hX6 := hXc.below hd6
    obtain ⟨x0, x1, x2, x3, x4⟩ := id hX6
    go_wp2_with fail
    refine (uB _ (hBc'.below hd6)).mono ?_
    rintro e w7 ⟨g7, rfl, hT7, hg7, hb7⟩
    have hd7 := bl_trans hd6 (bl_alloc hb7 (.cells #[.int .i64 k', .slice (some ⟨g7, 0, none⟩) len' len', .int .i64 n', .int .i64 s'] 27))
    have hU7 := hT7.below (bl_a (.cells #[.int .i64 k', .slice (some ⟨g7, 0, none⟩) len' len', .int .i64 n', .int .i64 s'] 27))
    have hT7 := hT6.below (bl_alloc hb7 (.cells #[.int .i64 k', .slice (some ⟨g7, 0, none⟩) len' len', .int .i64 n', .int .i64 s'] 27))
    have hP7 := hP6.below (bl_alloc hb7 (.cells #[.int .i64 k', .slice (some ⟨g7, 0, none⟩) len' len', .int .i64 n', .int .i64 s'] 27))
    have hQ7 := At4.new w7 (.int .i64 k') (.slice (some ⟨g7, 0, none⟩) len' len') (.int .i64 n') (.int .i64 s') 27
    have hs7 := hU7.2.1
    have hs67 := hb7.size
    simp at hs7 hs67 hg7
    clear hb7 hT6 hP6 hd6 hX6 x0 x1 x2 x3 x4
    obtain ⟨p0, p1, p2, p3, p4⟩ := id hP7
    obtain ⟨q0, q1, q2, q3, q4⟩ := id hQ7
    go_wp2_with fail
    refine (Ic _ _ _ hT7.1 hU7.1).mono ?_
    rintro e w8 ⟨rfl, hb8⟩
    have hs8 := hb8.size
    simp at hs8
    clear p0 p1 p2 p3 p4 q0 q1 q2 q3 q4
    have hb8 := bl_alloc hb8 (.cells #[.int .i64 z1, .slice none 0 0, .int .i64 z2, .int .i64 z3] 27)
    have hd8 := bl_trans hd7 hb8
    have hT8 := hT7.below hb8
    have hU8 := hU7.below hb8
    have hP8 := hP7.below hb8
    have hQ8 := hQ7.below hb8
    have hR8 := At4.new w8 (.int .i64 z1) (.slice none 0 0) (.int .i64 z2) (.int .i64 z3) 27
    clear hb8 hd7 hT7 hU7 hP7 hQ7
    have hG8 := hG.below hd8
    obtain ⟨g0, g1, g2, g3, g4⟩ := id hG8
    go_wp2_with fail
    refine (eqTerm0 z1 z2 z3 _).mono ?_
    rintro e w9 ⟨rfl, o1, o2, rfl⟩
    clear g0 g1 g2 g3 g4 hG8
    have hb9 : Below (w8.alloc (.cells #[.int .i64 z1, .slice none 0 0, .int .i64 z2, .int .i64 z3] 27)).heap.size (w8.alloc (.cells #[.int .i64 z1, .slice none 0 0, .int .i64 z2, .int .i64 z3] 27)) (((w8.alloc (.cells #[.int .i64 z1, .slice none 0 0, .int .i64 z2, .int .i64 z3] 27)).alloc o1).alloc o2) := bl_alloc (bl_a _) _
    have hd9 := bl_trans hd8 hb9
    have hT9 := hT8.below hb9
    have hU9 := hU8.below hb9
    have hP9 := hP8.below hb9
    have hQ9 := hQ8.below hb9
    have hR9 := hR8.below hb9
    clear hb9 hd8 hT8 hU8 hP8 hQ8 hR8
    generalize (((w8.alloc (.cells #[.int .i64 z1, .slice none 0 0, .int .i64 z2, .int .i64 z3] 27)).alloc o1).alloc o2) = w9 at *
    have hA9 := hAc.below hd9
    obtain ⟨p0, p1, p2, p3, p4⟩ := id hP9
    obtain ⟨y0, y1, y2, y3, y4⟩ := id hA9
    go_wp2_with fail
    go_region_held3 (fun w' => w'.cell? ⟨w6.heap.size, 0, none⟩ = some (.int .i64 k) ∧ w'.cell? ⟨w6.heap.size, 1, none⟩ = some (.slice (some ⟨g6, 0, none⟩) len len) ∧ w'.cell? ⟨w6.heap.size, 2, none⟩ = some (.int .i64 n) ∧ w'.cell? ⟨w6.heap.size, 3, none⟩ = some (.int .i64 s) ∧ w'.cell? ⟨w.heap.size, 0, none⟩ = some (.int .i64 k) ∧ w'.cell? ⟨w.heap.size, 1, none⟩ = some (.slice a len cap) ∧ w'.cell? ⟨w.heap.size, 2, none⟩ = some (.int .i64 n) ∧ w'.cell? ⟨w.heap.size, 3, none⟩ = some (.int .i64 s)) (simp [*, go_sem])
      (first
        | (go_at_call 9; refine (uA _ ((hBc.below hd9).below cell_drewC)).mono ?_; rintro e wa ⟨ga, rfl, hGa, _, hba⟩; have hba := bl_trans cell_drewC hba; have hAa := hA9.below hba; have hTa := hT9.below hba; have hPa := hP9.below hba; obtain ⟨p0, p1, p2, p3, p4⟩ := id hPa; obtain ⟨y0, y1, y2, y3, y4⟩ := id hAa)
        | (go_at_call 11; refine (eqTerm_any k n s k n s _ _ len len len len bs bs _ hTa.1 hGa.1).mono ?_; rintro e w10 ⟨rfl, hbb⟩; have hb10 := bl_trans hba hbb; have hAb := hAa.below hbb; have hPb := hPa.below hbb; obtain ⟨p0, p1, p2, p3, p4⟩ := id hPb; obtain ⟨y0, y1, y2, y3, y4⟩ := id hAb))
    clear p0 p1 p2 p3 p4 y0 y1 y2 y3 y4
    have hd10 := bl_trans hd9 hb10
    have hT10 := hT9.below hb10
    have hU10 := hU9.below hb10
    have hP10 := hP9.below hb10
    have hQ10 := hQ9.below hb10
    have hR10 := hR9.below hb10
    have hX10 := hXc.below hd10
    clear hGa hba hAa hTa hPa hbb hAb hPb hb10 hd9 hT9 hU9 hP9 hQ9 hR9 hA9
    obtain ⟨q0, q1, q2, q3, q4⟩ := id hQ10
    obtain ⟨x0, x1, x2, x3, x4⟩ := id hX10
    go_wp2_with fail
    go_region_held3 (fun w' => w'.cell? ⟨w7.heap.size, 0, none⟩ = some (.int .i64 k') ∧ w'.cell? ⟨w7.heap.size, 1, none⟩ = some (.slice (some ⟨g7, 0, none⟩) len' len') ∧ w'.cell? ⟨w7.heap.size, 2, none⟩ = some (.int .i64 n') ∧ w'.cell? ⟨w7.heap.size, 3, none⟩ = some (.int .i64 s') ∧ w'.cell? ⟨w.heap.size + 1, 0, none⟩ = some (.int .i64 k') ∧ w'.cell? ⟨w.heap.size + 1, 1, none⟩ = some (.slice a' len' cap') ∧ w'.cell? ⟨w.heap.size + 1, 2, none⟩ = some (.int .i64 n') ∧ w'.cell? ⟨w.heap.size + 1, 3, none⟩ = some (.int .i64 s')) (simp [*, go_sem])
      (first
        | (go_at_call 9; refine (uB _ ((hBc'.below hd10).below cell_drewC)).mono ?_; rintro e wa ⟨ga, rfl, hGa, _, hba⟩; have hba := bl_trans cell_drewC hba; have hXa := hX10.below hba; have hUa := hU10.below hba; have hQa := hQ10.below hba; obtain ⟨q0, q1, q2, q3, q4⟩ := id hQa; obtain ⟨x0, x1, x2, x3, x4⟩ := id hXa)
        | (go_at_call 11; refine (eqTerm_any k' n' s' k' n' s' _ _ len' len' len' len' bs' bs' _ hUa.1 hGa.1).mono ?_; rintro e w12 ⟨rfl, hbb⟩; have hb12 := bl_trans hba hbb; have hXb := hXa.below hbb; have hQb := hQa.below hbb; obtain ⟨q0, q1, q2, q3, q4⟩ := id hQb; obtain ⟨x0, x1, x2, x3, x4⟩ := id hXb))
    clear q0 q1 q2 q3 q4 x0 x1 x2 x3 x4
    have hd12 := bl_trans hd10 hb12
    have hT12 := hT10.below hb12
    have hU12 := hU10.below hb12
    have hP12 := hP10.below hb12
    have hQ12 := hQ10.below hb12
    have hR12 := hR10.below hb12
    clear hGa hba hXa hUa hQa hbb hXb hQb hb12 hd10 hT10 hU10 hP10 hQ10 hR10 hX10
    obtain ⟨p0, p1, p2, p3, p4⟩ := id hP12
    go_wp2_with fail
    refine (markTerm_own k n s g6 len len 1 _ (by omega) (by omega) hle2 hT12.2.1 hT12.2.2.1 hT12.2.2.2).mono ?_
    rintro e w13 ⟨rfl, o3, hb13, _, _⟩
    clear p0 p1 p2 p3 p4 hP12 hT12
    have hd13 := (bl_alloc hd12 o3).trans (hb13.below hg6)
    have hQ13 := (hQ12.below (bl_a o3)).but hb13 (by omega)
    have hU13 := (hU12.below (bl_a o3)).but hb13 (by omega)
    have hR13 := (hR12.below (bl_a o3)).but hb13 (by omega)
    clear hb13 hd12 hQ12 hU12 hR12
    obtain ⟨q0, q1, q2, q3, q4⟩ := id hQ13
    go_wp2_with fail
    refine (markTerm_own k' n' s' g7 len' len' (1 + (len : Int)) _ (by omega) (by omega) hle2' hU13.2.1 hU13.2.2.1 hU13.2.2.2).mono ?_
    rintro e w14 ⟨rfl, o4, hb14, _, _⟩
    clear q0 q1 q2 q3 q4 hQ13 hU13
    have hd14 := (bl_alloc hd13 o4).trans (hb14.below (by omega))
    have hR14 := (hR13.below (bl_a o4)).but hb14 (by omega)
    clear hb14 hd13 hR13
    have hk : ¬ (1 + (len : Int) + (len' : Int) < 0) := by omega
    have hG14 := hG.below hd14
    obtain ⟨g0, g1, g2, g3, g4⟩ := id hG14
    obtain ⟨r0, r1, r2, r3, r4⟩ := id hR14
    go_wp2_with fail
    refine (eqTerm0 z1 z2 z3 _).mono ?_
    rintro e w15 ⟨rfl, o1, o2, rfl⟩
    have hb15 : Below w14.heap.size w14 ((w14.alloc o1).alloc o2) := bl_alloc (bl_a _) _
    have hd15 := bl_trans hd14 hb15
    have hR15 := hR14.below hb15
    clear g0 g1 g2 g3 g4 r0 r1 r2 r3 r4 hG14 hd14 hR14 hb15 hk
    generalize (w14.alloc o1).alloc o2 = w15 at *
    obtain ⟨r0, r1, r2, r3, r4⟩ := id hR15
    go_wp2_with fail
    refine (markTerm0 z1 z2 z3 1 _).mono ?_
    rintro e w16 ⟨rfl, o1, rfl⟩
    have hd16 := bl_alloc hd15 o1
    have hR16 := hR15.below (bl_a o1)
    clear r0 r1 r2 r3 r4 hd15 hR15
    generalize w15.alloc o1 = w16 at *
    obtain ⟨r0, r1, r2, r3, r4⟩ := id hR16
    go_wp2_with fail
    refine (heldTerm0 z1 z2 z3 1 _ (by omega)).mono ?_
    rintro e w17 ⟨rfl, o1, rfl⟩
    have hd17 := bl_alloc hd16 o1
    have hR17 := hR16.below (bl_a o1)
    clear r0 r1 r2 r3 r4 hd16 hR16
    generalize w16.alloc o1 = w17 at *
    have hA := hAc.below hd17
    have hX := hXc.below hd17
    have hB := hBc.below hd17
    have hB' := hBc'.below hd17
    have hG := hG.below hd17
    have hw17 := bl_trans hwc hd17
    clear hAc hXc hBc hBc' hwc hd17
    obtain ⟨y0, y1, y2, y3, y4⟩ := id hA
    obtain ⟨x0, x1, x2, x3, x4⟩ := id hX
    go_wp2_with fail
    go_cut [17, 18] from 19 to 123 (fun sa sb wx => ∃ g : Nat, sa = .pointer (some ⟨g, 0, none⟩) ∧ sb = .bool z4 ∧ Below w17.heap.size w17 wx ∧ At4 wx g (.int .i64 z1) (.slice none 0 0) (.int .i64 z2) (.int .i64 z3) ∧ w17.heap.size ≤ g)
    case first =>
      have tok1 : True := trivial
      go_region_held3 (fun w' => w'.cell? ⟨w.heap.size, 0, none⟩ = some (.int .i64 k) ∧ w'.cell? ⟨w.heap.size, 1, none⟩ = some (.slice a len cap) ∧ w'.cell? ⟨w.heap.size, 2, none⟩ = some (.int .i64 n) ∧ w'.cell? ⟨w.heap.size, 3, none⟩ = some (.int .i64 s) ∧ w'.cell? ⟨w.heap.size + 1, 0, none⟩ = some (.int .i64 k') ∧ w'.cell? ⟨w.heap.size + 1, 1, none⟩ = some (.slice a' len' cap') ∧ w'.cell? ⟨w.heap.size + 1, 2, none⟩ = some (.int .i64 n') ∧ w'.cell? ⟨w.heap.size + 1, 3, none⟩ = some (.int .i64 s')) ((refine KS_of hA hX ?_; (repeat (first | with_reducible assumption | with_reducible exact Below.refl _ _ | with_reducible apply bl_alloc | with_reducible apply Below.drew | with_reducible apply below_drewN | with_reducible refine bl_set ?_ (by dsimp only; omega) _))))
        (first
          | (go_at_call 9; have _t := tok1; refine (uA _ (hB.below (by (repeat (first | with_reducible assumption | with_reducible exact Below.refl _ _ | with_reducible apply bl_alloc | with_reducible apply Below.drew | with_reducible apply below_drewN))))).mono ?_; rintro e wa ⟨ga, rfl, hGa, _, hba⟩; clear tok1; have hda : Below w17.heap.size w17 wa := bl_trans (by (repeat (first | with_reducible assumption | with_reducible exact Below.refl _ _ | with_reducible apply bl_alloc | with_reducible apply Below.drew | with_reducible apply below_drewN))) hba; have hsa := hda.size; (first | (have hZ : Own4 wa _ (.int .i64 0) (.slice none 0 0) (.int .i64 0) (.int .i64 0) := Own4.below (Own4.at _ _ _ _ _ _ _ rfl) hba) | (have hZ : Own4 wa _ (.int .i64 0) (.slice none 0 0) (.int .i64 0) (.int .i64 0) := Own4.below (Own4.drew (Own4.at _ _ _ _ _ _ _ rfl)) hba) | skip); (try simp at hZ))
          | (go_at_call 9; refine (uB _ (hB'.below (by (repeat (first | with_reducible assumption | with_reducible exact Below.refl _ _ | with_reducible apply bl_alloc | with_reducible apply Below.drew | with_reducible apply below_drewN))))).mono ?_; rintro e wb ⟨gb, rfl, hGb, _, hbb⟩; have hdb : Below w17.heap.size w17 wb := bl_trans (by (repeat (first | with_reducible assumption | with_reducible exact Below.refl _ _ | with_reducible apply bl_alloc | with_reducible apply Below.drew | with_reducible apply below_drewN))) hbb; have hsb := hdb.size; (first | (have hZ : Own4 wb _ (.int .i64 0) (.slice none 0 0) (.int .i64 0) (.int .i64 0) := hZ.below (bl_trans (by (repeat (first | with_reducible assumption | with_reducible exact Below.refl _ _ | with_reducible apply bl_alloc | with_reducible apply Below.drew | with_reducible apply below_drewN))) hbb)) | (have hZ : Own4 wb _ (.int .i64 0) (.slice none 0 0) (.int .i64 0) (.int .i64 0) := Own4.below (Own4.at _ _ _ _ _ _ _ rfl) hbb) | (have hZ : Own4 wb _ (.int .i64 0) (.slice none 0 0) (.int .i64 0) (.int .i64 0) := Own4.below (Own4.drew (Own4.at _ _ _ _ _ _ _ rfl)) hbb) | skip); (try simp at hZ); have hGa' := hGa.1.below (bl_trans (by (repeat (first | with_reducible assumption | with_reducible exact Below.refl _ _ | with_reducible apply bl_alloc | with_reducible apply Below.drew | with_reducible apply below_drewN))) hbb))
          | (go_at_call 19; refine (Ic _ _ _ (hGa'.below (by (repeat (first | with_reducible assumption | with_reducible exact Below.refl _ _ | with_reducible apply bl_alloc | with_reducible apply Below.drew | with_reducible apply below_drewN)))) (hGb.1.below (by (repeat (first | with_reducible assumption | with_reducible exact Below.refl _ _ | with_reducible apply bl_alloc | with_reducible apply Below.drew | with_reducible apply below_drewN))))).mono ?_; rintro e w5 ⟨rfl, hb5⟩; have hd5 : Below w17.heap.size w17 w5 := bl_trans (by (repeat (first | with_reducible assumption | with_reducible exact Below.refl _ _ | with_reducible apply bl_alloc | with_reducible apply Below.drew | with_reducible apply below_drewN))) hb5; have hs5 := hd5.size; (first | (have hZ : Own4 w5 _ (.int .i64 0) (.slice none 0 0) (.int .i64 0) (.int .i64 0) := hZ.below (bl_trans (by (repeat (first | with_reducible assumption | with_reducible exact Below.refl _ _ | with_reducible apply bl_alloc | with_reducible apply Below.drew | with_reducible apply below_drewN))) hb5)) | (have hZ : Own4 w5 _ (.int .i64 0) (.slice none 0 0) (.int .i64 0) (.int .i64 0) := Own4.below (Own4.at _ _ _ _ _ _ _ rfl) hb5) | (have hZ : Own4 w5 _ (.int .i64 0) (.slice none 0 0) (.int .i64 0) (.int .i64 0) := Own4.below (Own4.drew (Own4.at _ _ _ _ _ _ _ rfl)) hb5) | skip); (try simp at hZ); (try (obtain ⟨⟨z0, za, zb, zc, zd⟩, zf, zg, zh, zi⟩ := id hZ))))
      all_goals
        go_wp2_with fail
        go_meet
      · exact ⟨_, rfl, rfl, bl_alloc hd5 _, At4.new w5 _ _ _ _ _, hs5⟩
      all_goals
        exact ⟨_, rfl, rfl, bl_set (bl_set (bl_set (bl_set hd5 (by dsimp only; omega) _) (by dsimp only; omega) _) (by dsimp only; omega) _) (by dsimp only; omega) _, (Own4.set hZ _ _ _ _).1, by omega⟩
    case rest =>
      obtain ⟨g', rfl, rfl, hd, hH, hgl'⟩ := hcut
      have hGc := hG.below hd
      have hRc := hR17.below hd
      have hwc := bl_trans hw17 hd
      clear y0 y1 y2 y3 y4 x0 x1 x2 x3 x4 hA hX hB hB' hw17 hd hG hR17
      obtain ⟨y0, y1, y2, y3, y4⟩ := id hGc
      obtain ⟨x0, x1, x2, x3, x4⟩ := id hH
      go_wp2_with fail
      refine (eqTerm0 z1 z2 z3 _).mono ?_
      rintro e w18 ⟨rfl, o1, o2, rfl⟩
      have hR18 := hRc.below (bl_alloc (bl_a o1) o2)
      obtain ⟨r0, r1, r2, r3, r4⟩ := id hR18
      clear y0 y1 y2 y3 y4 x0 x1 x2 x3 x4
      go_wp2_with fail
      refine (heldTerm0 z1 z2 z3 1 _ (by omega)).mono ?_
      rintro e w19 ⟨rfl, o5, rfl⟩
      go_wp2
      go_ret
      exact ⟨rfl, bl_alloc (bl_alloc (bl_alloc hwc _) _) _⟩
end Go.Proofs.Ytjhobhkdncdnaae
