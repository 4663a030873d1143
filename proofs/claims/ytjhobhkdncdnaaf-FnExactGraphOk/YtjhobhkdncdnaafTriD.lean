/- The law FnExactTripleOk walked. -/
import Derived.Test.YtjhobhkdncdnaafTriC
import Derived.Deep.RegionHeld3
namespace Go.Proofs.Ytjhobhkdncdnaaf
open Go.RowKit Go.Deep

theorem left3_pos {l : Int} {t u v : Tm} (h : ¬ left3 l t u v < 0) : (t.len : Int) + u.len + v.len ≤ l ∧ left3 l t u v = l - t.len - u.len - v.len := by
  unfold left3 at h ⊢
  split at h
  · omega
  · split at h
    · omega
    · split at h
      · omega
      · rename_i a b c
        rw [if_neg a, if_neg b, if_neg c]
        omega
theorem bl_drew1 {w : World} : Below w.heap.size w w.drew := Below.drew (Below.refl _ _)

set_option maxRecDepth 20000 in
set_option maxHeartbeats 4000000 in
theorem walkTripleOk (t u v : Tm) (bt bu bv : List Int) (w : World) (ft : t.fits) (fu : u.fits) (fv : v.fits) (hT : t.len ≤ 1048576 → Bs w t.a t.len bt) (hU : u.len ≤ 1048576 → Bs w u.a u.len bu) (hV : v.len ≤ 1048576 → Bs w v.a v.len bv) (lt : t.len ≤ 9223372036854775807) (lu : u.len ≤ 9223372036854775807) (lv : v.len ≤ 9223372036854775807) :
    Calls Try.prog 3 #[.agg #[.int .i64 t.k, .slice t.a t.len t.cap, .int .i64 t.n, .int .i64 t.s, .int .i64 u.k, .slice u.a u.len u.cap, .int .i64 u.n, .int .i64 u.s, .int .i64 v.k, .slice v.a v.len v.cap, .int .i64 v.n, .int .i64 v.s]] w fun e w' => e = .returned (.bool true) ∧ Below w.heap.size w w' := by
  by_cases hle : left3 1048576 t u v < 0
  · clear hT hU hV
    have Z := fun w => szTriple_any t u v 1048576 w (by omega) (by omega) lt lu lv
    generalize left3 1048576 t u v = r at *
    go_enter Try.func3, Try.ntmps3
    go_wp2_with fail
    refine (Z _).mono ?_
    rintro e w1 ⟨rfl, hb1⟩
    go_wp2
    go_ret
    exact ⟨rfl, bl_trans (bl_a _) hb1⟩
  obtain ⟨hs3, hl3⟩ := left3_pos hle
  replace hT := hT (by omega)
  replace hU := hU (by omega)
  replace hV := hV (by omega)
  have Z := fun w => szTriple_any t u v 1048576 w (by omega) (by omega) lt lu lv
  generalize left3 1048576 t u v = r at *
  obtain ⟨p, hp⟩ : ∃ p, p = tripleOk t u v bt bu bv := ⟨_, rfl⟩
  have Sp : ∀ (w : World) (g1 g2 g3 : Nat), Bs w (some ⟨g1, 0, none⟩) t.len bt → Bs w (some ⟨g2, 0, none⟩) u.len bu → Bs w (some ⟨g3, 0, none⟩) v.len bv → Calls Try.prog 7 #[.agg #[.int .i64 t.k, .slice (some ⟨g1, 0, none⟩) t.len t.len, .int .i64 t.n, .int .i64 t.s, .int .i64 u.k, .slice (some ⟨g2, 0, none⟩) u.len u.len, .int .i64 u.n, .int .i64 u.s, .int .i64 v.k, .slice (some ⟨g3, 0, none⟩) v.len v.len, .int .i64 v.n, .int .i64 v.s]] w fun e w' => e = .returned (.bool p) ∧ Below w.heap.size w w' := by
    intro w g1 g2 g3 h1 h2 h3
    subst hp
    exact specTripleOk_any (t.own g1) (u.own g2) (v.own g3) bt bu bv w ft fu fv h1 h2 h3
  have Im : ∀ (w : World) (g1 g2 g3 : Nat), Bs w (some ⟨g1, 0, none⟩) t.len bt → Bs w (some ⟨g2, 0, none⟩) u.len bu → Bs w (some ⟨g3, 0, none⟩) v.len bv → Calls Try.prog 9 #[.agg #[.int .i64 t.k, .slice (some ⟨g1, 0, none⟩) t.len t.len, .int .i64 t.n, .int .i64 t.s, .int .i64 u.k, .slice (some ⟨g2, 0, none⟩) u.len u.len, .int .i64 u.n, .int .i64 u.s, .int .i64 v.k, .slice (some ⟨g3, 0, none⟩) v.len v.len, .int .i64 v.n, .int .i64 v.s]] w fun e w' => e = .returned (.bool p) ∧ Below w.heap.size w w' := by
    intro w g1 g2 g3 h1 h2 h3
    subst hp
    exact implTripleOk_any (t.own g1) (u.own g2) (v.own g3) bt bu bv w ft fu fv h1 h2 h3
  have Eq : ∀ (w : World) (g1 g2 g3 k1 k2 k3 : Nat), Bs w (some ⟨g1, 0, none⟩) t.len bt → Bs w (some ⟨g2, 0, none⟩) u.len bu → Bs w (some ⟨g3, 0, none⟩) v.len bv → Bs w (some ⟨k1, 0, none⟩) t.len bt → Bs w (some ⟨k2, 0, none⟩) u.len bu → Bs w (some ⟨k3, 0, none⟩) v.len bv →
      Calls Try.prog 10 #[.agg #[.int .i64 t.k, .slice (some ⟨g1, 0, none⟩) t.len t.len, .int .i64 t.n, .int .i64 t.s, .int .i64 u.k, .slice (some ⟨g2, 0, none⟩) u.len u.len, .int .i64 u.n, .int .i64 u.s, .int .i64 v.k, .slice (some ⟨g3, 0, none⟩) v.len v.len, .int .i64 v.n, .int .i64 v.s], .agg #[.int .i64 t.k, .slice (some ⟨k1, 0, none⟩) t.len t.len, .int .i64 t.n, .int .i64 t.s, .int .i64 u.k, .slice (some ⟨k2, 0, none⟩) u.len u.len, .int .i64 u.n, .int .i64 u.s, .int .i64 v.k, .slice (some ⟨k3, 0, none⟩) v.len v.len, .int .i64 v.n, .int .i64 v.s]] w fun e w' => e = .returned (.bool true) ∧ Below w.heap.size w w' := by
    intro w g1 g2 g3 k1 k2 k3 h1 h2 h3 i1 i2 i3
    exact eqTriple_like (t.own g1) (u.own g2) (v.own g3) (t.own k1) (u.own k2) (v.own k3) bt bu bv w ⟨rfl, rfl, rfl⟩ ⟨rfl, rfl, rfl⟩ ⟨rfl, rfl, rfl⟩ h1 h2 h3 i1 i2 i3
  have To := fun w h1 h2 h3 => toTriple_any t u v bt bu bv w h1 h2 h3
  clear hp ft fu fv
  go_enter Try.func3, Try.ntmps3
  go_wp2_with fail
  refine (Z _).mono ?_
  rintro e w1 ⟨rfl, hb1⟩
  have hA := (Own12.at w w.heap.size t u v 26 rfl).1.below hb1
  have hw := bl_trans (bl_a _) hb1
  clear hb1 Z
  obtain ⟨_, ⟨x0, x1, x2, x3⟩, ⟨x4, x5, x6, x7⟩, ⟨x8, x9, xa, xb⟩⟩ := id hA
  go_wp2_with fail
  refine (To _ (hT.below hw) (hU.below hw) (hV.below hw)).mono ?_
  rintro e w2 ⟨f1, f2, f3, rfl, h1, h2, h3, hb2⟩
  replace hA := hA.below hb2
  replace hw := bl_trans hw hb2
  clear x0 x1 x2 x3 x4 x5 x6 x7 x8 x9 xa xb
  clear hb2
  go_wp2_with fail
  refine (Sp _ _ _ _ h1 h2 h3).mono ?_
  rintro e w3 ⟨rfl, hb3⟩
  replace hA := hA.below hb3
  replace hw := bl_trans hw hb3
  clear hb3 h1 h2 h3
  obtain ⟨_, ⟨x0, x1, x2, x3⟩, ⟨x4, x5, x6, x7⟩, ⟨x8, x9, xa, xb⟩⟩ := id hA
  go_wp2_with fail
  refine (To _ (hT.below hw) (hU.below hw) (hV.below hw)).mono ?_
  rintro e w4 ⟨g1, g2, g3, rfl, h1, h2, h3, hb4⟩
  have hba : Below w4.heap.size w4 (w4.alloc (.cells (cells12 (t.own g1) (u.own g2) (v.own g3)) 31)) := bl_a _
  replace hA := (hA.below hb4).below hba
  replace hw := bl_trans (bl_trans hw hb4) hba
  replace h1 := h1.below hba
  replace h2 := h2.below hba
  replace h3 := h3.below hba
  have hX := (Own12.at w4 w4.heap.size (t.own g1) (u.own g2) (v.own g3) 31 rfl).1
  clear x0 x1 x2 x3 x4 x5 x6 x7 x8 x9 xa xb
  clear hb4 hba
  go_wp2_with fail
  refine (Im (w4.alloc (.cells (cells12 (t.own g1) (u.own g2) (v.own g3)) 31)) _ _ _ h1 h2 h3).mono ?_
  rintro e w5 ⟨rfl, hb5⟩
  replace hA := hA.below hb5
  replace hX := hX.below hb5
  replace hw := bl_trans hw hb5
  replace h1 := h1.below hb5
  replace h2 := h2.below hb5
  replace h3 := h3.below hb5
  clear hb5
  obtain ⟨_, ⟨x0, x1, x2, x3⟩, ⟨x4, x5, x6, x7⟩, ⟨x8, x9, xa, xb⟩⟩ := id hA
  obtain ⟨_, ⟨y0, y1, y2, y3⟩, ⟨y4, y5, y6, y7⟩, ⟨y8, y9, ya, yb⟩⟩ := id hX
  simp only [Tm.own] at y0 y1 y2 y3 y4 y5 y6 y7 y8 y9 ya yb
  go_wp2_with fail
  go_region_held3 (fun w' => w'.cell? ⟨w4.heap.size, 0, none⟩ = some (.int .i64 t.k) ∧ w'.cell? ⟨w4.heap.size, 1, none⟩ = some (.slice (some ⟨g1, 0, none⟩) t.len t.len) ∧ w'.cell? ⟨w4.heap.size, 2, none⟩ = some (.int .i64 t.n) ∧ w'.cell? ⟨w4.heap.size, 3, none⟩ = some (.int .i64 t.s) ∧ w'.cell? ⟨w4.heap.size, 4, none⟩ = some (.int .i64 u.k) ∧ w'.cell? ⟨w4.heap.size, 5, none⟩ = some (.slice (some ⟨g2, 0, none⟩) u.len u.len) ∧ w'.cell? ⟨w4.heap.size, 6, none⟩ = some (.int .i64 u.n) ∧ w'.cell? ⟨w4.heap.size, 7, none⟩ = some (.int .i64 u.s) ∧ w'.cell? ⟨w4.heap.size, 8, none⟩ = some (.int .i64 v.k) ∧ w'.cell? ⟨w4.heap.size, 9, none⟩ = some (.slice (some ⟨g3, 0, none⟩) v.len v.len) ∧ w'.cell? ⟨w4.heap.size, 10, none⟩ = some (.int .i64 v.n) ∧ w'.cell? ⟨w4.heap.size, 11, none⟩ = some (.int .i64 v.s) ∧ w'.cell? ⟨w.heap.size, 0, none⟩ = some (.int .i64 t.k) ∧ w'.cell? ⟨w.heap.size, 1, none⟩ = some (.slice t.a t.len t.cap) ∧ w'.cell? ⟨w.heap.size, 2, none⟩ = some (.int .i64 t.n) ∧ w'.cell? ⟨w.heap.size, 3, none⟩ = some (.int .i64 t.s) ∧ w'.cell? ⟨w.heap.size, 4, none⟩ = some (.int .i64 u.k) ∧ w'.cell? ⟨w.heap.size, 5, none⟩ = some (.slice u.a u.len u.cap) ∧ w'.cell? ⟨w.heap.size, 6, none⟩ = some (.int .i64 u.n) ∧ w'.cell? ⟨w.heap.size, 7, none⟩ = some (.int .i64 u.s) ∧ w'.cell? ⟨w.heap.size, 8, none⟩ = some (.int .i64 v.k) ∧ w'.cell? ⟨w.heap.size, 9, none⟩ = some (.slice v.a v.len v.cap) ∧ w'.cell? ⟨w.heap.size, 10, none⟩ = some (.int .i64 v.n) ∧ w'.cell? ⟨w.heap.size, 11, none⟩ = some (.int .i64 v.s)) (simp [*, go_sem])
    (first
      | (go_at_call 8; refine (To _ ((hT.below hw).below bl_drew1) ((hU.below hw).below bl_drew1) ((hV.below hw).below bl_drew1)).mono ?_; rintro e w6 ⟨k1, k2, k3, rfl, i1, i2, i3, hb6⟩; have hb6 := bl_trans bl_drew1 hb6; have hA6 := hA.below hb6; have hX6 := hX.below hb6; have h16 := h1.below hb6; have h26 := h2.below hb6; have h36 := h3.below hb6; have hw6 := bl_trans hw hb6; obtain ⟨_, ⟨x0, x1, x2, x3⟩, ⟨x4, x5, x6, x7⟩, ⟨x8, x9, xa, xb⟩⟩ := id hA6; obtain ⟨_, ⟨y0, y1, y2, y3⟩, ⟨y4, y5, y6, y7⟩, ⟨y8, y9, ya, yb⟩⟩ := id hX6; simp only [Tm.own] at y0 y1 y2 y3 y4 y5 y6 y7 y8 y9 ya yb)
      | (go_at_call 10; refine (Eq _ _ _ _ _ _ _ h16 h26 h36 i1 i2 i3).mono ?_; rintro e w7 ⟨rfl, hb7⟩; have hA7 := hA6.below hb7; have hX7 := hX6.below hb7; obtain ⟨_, ⟨x0, x1, x2, x3⟩, ⟨x4, x5, x6, x7⟩, ⟨x8, x9, xa, xb⟩⟩ := id hA7; obtain ⟨_, ⟨y0, y1, y2, y3⟩, ⟨y4, y5, y6, y7⟩, ⟨y8, y9, ya, yb⟩⟩ := id hX7; simp only [Tm.own] at y0 y1 y2 y3 y4 y5 y6 y7 y8 y9 ya yb))
  go_wp2
  go_ret
  exact ⟨rfl, bl_trans hw6 hb7⟩
end Go.Proofs.Ytjhobhkdncdnaaf
