/- The law FnExactTruth, walked. -/
import Derived.Test.YtmpiadlmkeimdaaTruA
import Derived.Deep.RegionWith
namespace Go.Proofs.Ytmpiadlmkeimdaa
open Go.RowKit Go.Deep

set_option maxHeartbeats 1000000 in
theorem walkTruth (k n s : Int) (a : Option Addr) (len cap : Nat) (bs : List Int) (w : World) (hB : len ≤ 1048576 → Bs w a len bs) (hlm : len ≤ 9223372036854775807)
    (h1 : -9223372036854775808 ≤ n) (h2 : n ≤ 9223372036854775807) (h3 : -9223372036854775808 ≤ s) (h4 : s ≤ 9223372036854775807) :
    Calls Try.prog 3 #[.agg #[.int .i64 k, .slice a len cap, .int .i64 n, .int .i64 s]] w fun e w' => e = .returned (.bool true) ∧ Below w.heap.size w w' := by
  by_cases hle : len ≤ 1048576
  · have hB := hB hle
    have hz : leftOf 1048576 len = 1048576 - (len : Int) := by unfold leftOf; rw [if_neg (by omega)]
    go_enter Try.func3, Try.ntmps3
    go_wp2_with (go_at_call 4; refine (szTerm_any k n s a len cap 1048576 _ (by omega) (by omega) hlm).mono ?_; rintro e w1 ⟨rfl, hb1⟩; have hA1 := (At4.new w _ _ _ _ _).below hb1; have hB1 := hB.below (bl_trans (bl_a _) hb1); have hW1 := bl_trans (bl_a _) hb1; clear hb1; obtain ⟨c0, c1, c2, c3, c4⟩ := id hA1)
    refine (toTerm_any k n s a len cap bs _ hB1).mono ?_
    rintro e w2 ⟨g, rfl, hG2, hb2⟩
    have hA2 := hA1.below hb2
    have hB2 := hB1.below hb2
    have hW2 := bl_trans hW1 hb2
    clear c0 c1 c2 c3 c4 hA1 hB1 hW1 hb2
    go_wp2_with (go_at_call 5; refine (specTruth_any k n s _ len len bs _ hG2 h1 h2).mono ?_; rintro e w3 ⟨rfl, hb3⟩; clear hG2; have hA2 := hA2.below hb3; have hB2 := hB2.below hb3; have hW2 := bl_trans hW2 hb3; obtain ⟨c0, c1, c2, c3, c4⟩ := id hA2)
    refine (toTerm_any k n s a len cap bs _ hB2).mono ?_
    rintro e w4 ⟨g', rfl, hG4, hb4⟩
    have hb4' := hb4
    have hA4 := (hA2.below hb4').below (bl_a (.cells #[.int .i64 k, .slice (some ⟨g', 0, none⟩) len len, .int .i64 n, .int .i64 s] 28))
    have hB4 := (hB2.below hb4').below (bl_a (.cells #[.int .i64 k, .slice (some ⟨g', 0, none⟩) len len, .int .i64 n, .int .i64 s] 28))
    have hW4 := bl_trans (bl_trans hW2 hb4') (bl_a (.cells #[.int .i64 k, .slice (some ⟨g', 0, none⟩) len len, .int .i64 n, .int .i64 s] 28))
    have hG4' := hG4.below (bl_a (.cells #[.int .i64 k, .slice (some ⟨g', 0, none⟩) len len, .int .i64 n, .int .i64 s] 28))
    clear c0 c1 c2 c3 c4 hA2 hB2 hW2 hb4 hb4' hG4
    go_wp2_with (go_at_call 7; refine (implTruth_any k n s _ len len bs _ hG4' h1 h2 h3 h4).mono ?_; rintro e w5 ⟨rfl, hb5⟩)
    have hA5 := hA4.below hb5
    have hX5 := (At4.new w4 (.int .i64 k) (.slice (some ⟨g', 0, none⟩) len len) (.int .i64 n) (.int .i64 s) 28).below hb5
    have hB5 := hB4.below hb5
    have hG5 := hG4'.below hb5
    have hW5 := bl_trans hW4 hb5
    clear hA4 hB4 hG4' hW4 hb5 hB
    obtain ⟨c0, c1, c2, c3, c4⟩ := id hA5
    obtain ⟨x0, x1, x2, x3, x4⟩ := id hX5
    go_region_with (first
      | (go_at_call 6; refine (toTerm_any k n s a len cap bs w5.drew (hB5.below (Below.drew (Below.refl _ _)))).mono ?_; rintro e w6 ⟨g6, rfl, hG6, hb6⟩; have hb6' : Below w5.heap.size w5 w6 := bl_trans (Below.drew (Below.refl _ _)) hb6; have hX6 := hX5.below hb6'; have hY6 := hG5.below hb6'; have hW6 := bl_trans hW5 hb6'; clear hb6 hb6'; obtain ⟨y0, y1, y2, y3, y4⟩ := id hX6)
      | (go_at_call 8; refine (eqTerm_any k n s k n s _ _ len len len len bs bs _ (by assumption) (by assumption)).mono ?_; rintro e w7 ⟨rfl, hb7⟩))
    all_goals (go_wp2; go_ret; exact ⟨rfl, bl_trans hW6 hb7⟩)
  · have hz : leftOf 1048576 len = -1 := by unfold leftOf; rw [if_pos (by omega)]
    clear hB
    go_enter Try.func3, Try.ntmps3
    go_wp2_with (go_at_call 4; refine (szTerm_any k n s a len cap 1048576 _ (by omega) (by omega) hlm).mono ?_; rintro e w1 ⟨rfl, hb1⟩)
    go_ret
    exact ⟨rfl, bl_trans (bl_a _) hb1⟩
end Go.Proofs.Ytmpiadlmkeimdaa
