/- Texts put together: GraF StrE -/
import Derived.Test.YtdcaicoomldmgaaGreatDoorMk07
import Derived.Test.YtdcaicoomldmgaaGreatDoorMk08
import Derived.Deep.RegionHeld3
/- GraF -/
namespace Go.Proofs.YtdcaicoomldmgaaGreatDoor
open Go.RowKit Go.Deep

/-- One operation of a region that draws its order, taken first; its slot is d. -/
theorem take_at {P : Program} {md : Region.Mode} {ops : Array Oper} {Q : Exit → Act → World → Prop} {S : World → Prop} {i : Nat} {oi : Oper} {v : Value} {fuel : Nat} {listed : Array Bool} {a : Act} {w : World} (d : Nat) (hi : ops[i]? = some oi) (hd : oi.dst = some d)
    (hs : Region.noSelect ops = true) (hf : Region.free md ops listed i = true) (hr : (Region.ready md ops listed).contains i = true)
    (hQ : ∀ c a w, Q (.panic c) (a.put (some d) v) w → Q (.panic c) a w) (hy : YieldsIf P ops S oi v a) (hS : S w)
    (h : wpAnyH P md ops Q S fuel (listed.setIfInBounds i true) (a.put (some d) v) w) : wpAnyH P md ops Q S (fuel + 1) listed a w :=
  wpAnyH_take hi hs hf hr (by rw [hd]; exact hQ) hy hS (by rw [hd]; exact h)

theorem cmpOr3_any (x y z : Int) (b : Nat) (w : World) (h0 : w.cell? ⟨b, 0, none⟩ = some (.int .i64 x)) (h1 : w.cell? ⟨b, 1, none⟩ = some (.int .i64 y)) (h2 : w.cell? ⟨b, 2, none⟩ = some (.int .i64 z)) :
    Calls Tryz.prog 111 #[.slice (some ⟨b, 0, none⟩) 3 3] w fun e w' => e = .returned (.int .i64 (cmp3 x y z)) ∧ w' = w := by
  by_cases hx : x = 0
  · subst hx
    by_cases hy : y = 0
    · subst hy
      by_cases hz : z = 0
      · subst hz
        have e0 : cmp3 0 0 0 = 0 := rfl
        rw [e0]
        go_enter Tryz.func111, Tryz.ntmps111
        go_wp2
        refine wp_loop_rounds 4 ?_
        rw [rounds_succ]
        go_wp2
        rw [rounds_succ]
        go_wp2
        rw [rounds_succ]
        go_wp2
        rw [rounds_succ]
        go_wp2
        go_ret
        exact ⟨rfl, rfl⟩
      · have hz' : (z != 0) = true := by simp; omega
        have e0 : cmp3 0 0 z = z := rfl
        rw [e0]
        clear hz
        go_enter Tryz.func111, Tryz.ntmps111
        go_wp2
        refine wp_loop_rounds 3 ?_
        rw [rounds_succ]
        go_wp2
        rw [rounds_succ]
        go_wp2
        rw [rounds_succ]
        go_wp2
        go_ret
        exact ⟨rfl, rfl⟩
    · have hy' : (y != 0) = true := by simp; omega
      have e0 : cmp3 0 y z = y := by unfold cmp3 orI; simp [hy]
      rw [e0]
      clear hy
      go_enter Tryz.func111, Tryz.ntmps111
      go_wp2
      refine wp_loop_rounds 2 ?_
      rw [rounds_succ]
      go_wp2
      rw [rounds_succ]
      go_wp2
      go_ret
      exact ⟨rfl, rfl⟩
  · have hx' : (x != 0) = true := by simp; omega
    have e0 : cmp3 x y z = x := by unfold cmp3 orI; simp [hx]
    rw [e0]
    clear hx
    go_enter Tryz.func111, Tryz.ntmps111
    go_wp2
    refine wp_loop_rounds 1 ?_
    rw [rounds_succ]
    go_wp2
    go_ret
    exact ⟨rfl, rfl⟩

/-- Two terms that may be, compared. -/
def tcmp (t t' : Tm) (b b' : List Int) : Int := cmp3 (cmpI t.k t'.k) (cmpB b b') (cmpN t.n t.s.toNat t'.n t'.s.toNat)
/-- Two triples that may be. -/
def tcmp3 (t u v t' u' v' : Tm) (bt bu bv bt' bu' bv' : List Int) : Int := cmp3 (tcmp t t' bt bt') (tcmp u u' bu bu') (tcmp v v' bv bv')
theorem tripleOk_out {t u v : Tm} {bt bu bv : List Int} (h : tripleOk t u v bt bu bv = true) : termOk t.k bt t.n t.s = true ∧ termOk u.k bu u.n u.s = true ∧ termOk v.k bv v.n v.s = true := by
  unfold tripleOk at h
  simp only [Bool.and_eq_true] at h
  exact ⟨h.1.1.1.1, h.1.1.1.2, h.1.1.2⟩

theorem l1compare_tm (t t' : Tm) (b b' : List Int) (w : World) (f : t.fits) (f' : t'.fits) (o : termOk t.k b t.n t.s = true) (o' : termOk t'.k b' t'.n t'.s = true) (h : Bs w t.a t.len b) (h' : Bs w t'.a t'.len b') :
    Calls Tryz.prog 66 #[.agg #[.int .i64 t.k, .slice t.a t.len t.cap, .int .i64 t.n, .int .i64 t.s], .agg #[.int .i64 t'.k, .slice t'.a t'.len t'.cap, .int .i64 t'.n, .int .i64 t'.s]] w fun e w' => e = .returned (.int .i64 (tcmp t t' b b')) ∧ Below w.heap.size w w' := by
  have s1 := termOk_scale o
  have s2 := termOk_scale o'
  unfold tcmp
  obtain ⟨m, hm⟩ : ∃ m : Nat, t.s = m := ⟨t.s.toNat, by omega⟩
  obtain ⟨m', hm'⟩ : ∃ m : Nat, t'.s = m := ⟨t'.s.toNat, by omega⟩
  have := l1compare_any t.k t.n t'.k t'.n m m' t.a t'.a t.len t.cap t'.len t'.cap b b' w h h' (by omega) f.1 f.2.1 (by omega) f'.1 f'.2.1 (by rw [← hm]; exact o) (by rw [← hm']; exact o')
  rw [hm, hm']
  simpa using this
theorem implCompare_tm (t t' : Tm) (b b' : List Int) (w : World) (f : t.fits) (f' : t'.fits) (o : termOk t.k b t.n t.s = true) (o' : termOk t'.k b' t'.n t'.s = true) (h : Bs w t.a t.len b) (h' : Bs w t'.a t'.len b') :
    Calls Tryz.prog 82 #[.agg #[.int .i64 t.k, .slice t.a t.len t.cap, .int .i64 t.n, .int .i64 t.s], .agg #[.int .i64 t'.k, .slice t'.a t'.len t'.cap, .int .i64 t'.n, .int .i64 t'.s]] w fun e w' => e = .returned (.int .i64 (tcmp t t' b b')) ∧ Below w.heap.size w w' := by
  have := implCompare_any t.k t.n t.s t'.k t'.n t'.s t.a t'.a t.len t.cap t'.len t'.cap b b' w h h' f.1 f.2.1 f.2.2.1 f.2.2.2 f'.1 f'.2.1 f'.2.2.1 f'.2.2.2
  rw [o, o'] at this
  exact this

theorem l2compare_any (t u v t' u' v' : Tm) (bt bu bv bt' bu' bv' : List Int) (w : World) (ft : t.fits) (fu : u.fits) (fv : v.fits) (ft' : t'.fits) (fu' : u'.fits) (fv' : v'.fits)
    (o : tripleOk t u v bt bu bv = true) (o' : tripleOk t' u' v' bt' bu' bv' = true) (hT : Bs w t.a t.len bt) (hU : Bs w u.a u.len bu) (hV : Bs w v.a v.len bv) (hT' : Bs w t'.a t'.len bt') (hU' : Bs w u'.a u'.len bu') (hV' : Bs w v'.a v'.len bv') :
    Calls Tryz.prog 74 #[.agg #[.int .i64 t.k, .slice t.a t.len t.cap, .int .i64 t.n, .int .i64 t.s, .int .i64 u.k, .slice u.a u.len u.cap, .int .i64 u.n, .int .i64 u.s, .int .i64 v.k, .slice v.a v.len v.cap, .int .i64 v.n, .int .i64 v.s], .agg #[.int .i64 t'.k, .slice t'.a t'.len t'.cap, .int .i64 t'.n, .int .i64 t'.s, .int .i64 u'.k, .slice u'.a u'.len u'.cap, .int .i64 u'.n, .int .i64 u'.s, .int .i64 v'.k, .slice v'.a v'.len v'.cap, .int .i64 v'.n, .int .i64 v'.s]] w fun e w' => e = .returned (.int .i64 (tcmp3 t u v t' u' v' bt bu bv bt' bu' bv')) ∧ Below w.heap.size w w' := by
  obtain ⟨o1, o2, o3⟩ := tripleOk_out o
  obtain ⟨o1', o2', o3'⟩ := tripleOk_out o'
  have C1 := fun w h h' => l1compare_tm t t' bt bt' w ft ft' o1 o1' h h'
  have C2 := fun w h h' => l1compare_tm u u' bu bu' w fu fu' o2 o2' h h'
  have C3 := fun w h h' => l1compare_tm v v' bv bv' w fv fv' o3 o3' h h'
  clear o o' o1 o2 o3 o1' o2' o3' ft fu fv ft' fu' fv'
  unfold tcmp3
  generalize tcmp t t' bt bt' = c1 at *
  generalize tcmp u u' bu bu' = c2 at *
  generalize tcmp v v' bv bv' = c3 at *
  by_cases e1 : c1 = 0
  · subst e1
    by_cases e2 : c2 = 0
    · subst e2
      have e0 : cmp3 0 0 c3 = c3 := rfl
      rw [e0]
      go_enter Tryz.func74, Tryz.ntmps74
      go_wp2_with fail
      refine (C1 _ (hT.below (bl_alloc (bl_a _) _)) (hT'.below (bl_alloc (bl_a _) _))).mono ?_
      rintro e w1 ⟨rfl, hb1⟩
      have hA := (Own12.at w w.heap.size t u v 110 rfl).1.below (bl_trans (bl_a _) hb1)
      have hX := (Own12.at (w.alloc _) (w.heap.size + 1) t' u' v' 110 (by simp)).1.below hb1
      have hw := bl_trans (bl_alloc (bl_a _) _) hb1
      clear hb1
      obtain ⟨_, ⟨x0, x1, x2, x3⟩, ⟨x4, x5, x6, x7⟩, ⟨x8, x9, xa, xb⟩⟩ := id hA
      obtain ⟨_, ⟨y0, y1, y2, y3⟩, ⟨y4, y5, y6, y7⟩, ⟨y8, y9, ya, yb⟩⟩ := id hX
      go_wp2_with fail
      refine (C2 _ (hU.below hw) (hU'.below hw)).mono ?_
      rintro e w2 ⟨rfl, hb2⟩
      replace hA := hA.below hb2
      replace hX := hX.below hb2
      replace hw := bl_trans hw hb2
      clear hb2
      clear x0 x1 x2 x3 x4 x5 x6 x7 x8 x9 xa xb
      clear y0 y1 y2 y3 y4 y5 y6 y7 y8 y9 ya yb
      obtain ⟨_, ⟨x0, x1, x2, x3⟩, ⟨x4, x5, x6, x7⟩, ⟨x8, x9, xa, xb⟩⟩ := id hA
      obtain ⟨_, ⟨y0, y1, y2, y3⟩, ⟨y4, y5, y6, y7⟩, ⟨y8, y9, ya, yb⟩⟩ := id hX
      go_wp2_with fail
      refine (C3 _ (hV.below hw) (hV'.below hw)).mono ?_
      rintro e w3 ⟨rfl, hb3⟩
      replace hw := bl_trans hw hb3
      go_wp2
      go_ret
      exact ⟨rfl, hw⟩
    · have e0 : cmp3 0 c2 c3 = c2 := by unfold cmp3 orI; simp [e2]
      have e2' : (c2 == 0) = false := by simp [e2]
      rw [e0]
      clear e2
      go_enter Tryz.func74, Tryz.ntmps74
      go_wp2_with fail
      refine (C1 _ (hT.below (bl_alloc (bl_a _) _)) (hT'.below (bl_alloc (bl_a _) _))).mono ?_
      rintro e w1 ⟨rfl, hb1⟩
      have hA := (Own12.at w w.heap.size t u v 110 rfl).1.below (bl_trans (bl_a _) hb1)
      have hX := (Own12.at (w.alloc _) (w.heap.size + 1) t' u' v' 110 (by simp)).1.below hb1
      have hw := bl_trans (bl_alloc (bl_a _) _) hb1
      clear hb1
      obtain ⟨_, ⟨x0, x1, x2, x3⟩, ⟨x4, x5, x6, x7⟩, ⟨x8, x9, xa, xb⟩⟩ := id hA
      obtain ⟨_, ⟨y0, y1, y2, y3⟩, ⟨y4, y5, y6, y7⟩, ⟨y8, y9, ya, yb⟩⟩ := id hX
      go_wp2_with fail
      refine (C2 _ (hU.below hw) (hU'.below hw)).mono ?_
      rintro e w2 ⟨rfl, hb2⟩
      replace hA := hA.below hb2
      replace hX := hX.below hb2
      replace hw := bl_trans hw hb2
      clear hb2
      clear x0 x1 x2 x3 x4 x5 x6 x7 x8 x9 xa xb
      clear y0 y1 y2 y3 y4 y5 y6 y7 y8 y9 ya yb
      obtain ⟨_, ⟨x0, x1, x2, x3⟩, ⟨x4, x5, x6, x7⟩, ⟨x8, x9, xa, xb⟩⟩ := id hA
      obtain ⟨_, ⟨y0, y1, y2, y3⟩, ⟨y4, y5, y6, y7⟩, ⟨y8, y9, ya, yb⟩⟩ := id hX
      go_wp2
      go_ret
      exact ⟨rfl, hw⟩
  · have e0 : cmp3 c1 c2 c3 = c1 := by unfold cmp3 orI; simp [e1]
    have e1' : (c1 == 0) = false := by simp [e1]
    rw [e0]
    clear e1
    go_enter Tryz.func74, Tryz.ntmps74
    go_wp2_with fail
    refine (C1 _ (hT.below (bl_alloc (bl_a _) _)) (hT'.below (bl_alloc (bl_a _) _))).mono ?_
    rintro e w1 ⟨rfl, hb1⟩
    have hA := (Own12.at w w.heap.size t u v 110 rfl).1.below (bl_trans (bl_a _) hb1)
    have hX := (Own12.at (w.alloc _) (w.heap.size + 1) t' u' v' 110 (by simp)).1.below hb1
    have hw := bl_trans (bl_alloc (bl_a _) _) hb1
    clear hb1
    obtain ⟨_, ⟨x0, x1, x2, x3⟩, ⟨x4, x5, x6, x7⟩, ⟨x8, x9, xa, xb⟩⟩ := id hA
    obtain ⟨_, ⟨y0, y1, y2, y3⟩, ⟨y4, y5, y6, y7⟩, ⟨y8, y9, ya, yb⟩⟩ := id hX
    go_wp2
    go_ret
    exact ⟨rfl, hw⟩

theorem bl_drew3 {w : World} : Below w.heap.size w w.drew := Below.drew (Below.refl _ _)

set_option maxRecDepth 20000 in
set_option maxHeartbeats 2000000 in
theorem compareTriples_any (t u v t' u' v' : Tm) (bt bu bv bt' bu' bv' : List Int) (w : World) (ft : t.fits) (fu : u.fits) (fv : v.fits) (ft' : t'.fits) (fu' : u'.fits) (fv' : v'.fits)
    (o : tripleOk t u v bt bu bv = true) (o' : tripleOk t' u' v' bt' bu' bv' = true) (hT : Bs w t.a t.len bt) (hU : Bs w u.a u.len bu) (hV : Bs w v.a v.len bv) (hT' : Bs w t'.a t'.len bt') (hU' : Bs w u'.a u'.len bu') (hV' : Bs w v'.a v'.len bv') :
    Calls Tryz.prog 80 #[.agg #[.int .i64 t.k, .slice t.a t.len t.cap, .int .i64 t.n, .int .i64 t.s, .int .i64 u.k, .slice u.a u.len u.cap, .int .i64 u.n, .int .i64 u.s, .int .i64 v.k, .slice v.a v.len v.cap, .int .i64 v.n, .int .i64 v.s], .agg #[.int .i64 t'.k, .slice t'.a t'.len t'.cap, .int .i64 t'.n, .int .i64 t'.s, .int .i64 u'.k, .slice u'.a u'.len u'.cap, .int .i64 u'.n, .int .i64 u'.s, .int .i64 v'.k, .slice v'.a v'.len v'.cap, .int .i64 v'.n, .int .i64 v'.s]] w fun e w' => e = .returned (.int .i64 (tcmp3 t u v t' u' v' bt bu bv bt' bu' bv')) ∧ Below w.heap.size w w' := by
  obtain ⟨o1, o2, o3⟩ := tripleOk_out o
  obtain ⟨o1', o2', o3'⟩ := tripleOk_out o'
  have C1 := fun w h h' => implCompare_tm t t' bt bt' w ft ft' o1 o1' h h'
  have C2 := fun w h h' => implCompare_tm u u' bu bu' w fu fu' o2 o2' h h'
  have C3 := fun w h h' => implCompare_tm v v' bv bv' w fv fv' o3 o3' h h'
  clear o o' o1 o2 o3 o1' o2' o3' ft fu fv ft' fu' fv'
  unfold tcmp3
  generalize tcmp t t' bt bt' = c1 at *
  generalize tcmp u u' bu bu' = c2 at *
  generalize tcmp v v' bv bv' = c3 at *
  have tok1 : True := trivial
  have tok2 : True := trivial
  have tok3 : True := trivial
  have hA : ∀ T, At12 ((w.alloc (.cells (cells12 t u v) T)).alloc (.cells (cells12 t' u' v') T)) w.heap.size t u v := fun T => (Own12.at w w.heap.size t u v T rfl).1.below (bl_a _)
  have hX : ∀ T, At12 ((w.alloc (.cells (cells12 t u v) T)).alloc (.cells (cells12 t' u' v') T)) (w.heap.size + 1) t' u' v' := fun T => (Own12.at (w.alloc _) (w.heap.size + 1) t' u' v' T (by simp)).1
  replace hA := hA 110
  replace hX := hX 110
  have hw : Below w.heap.size w ((w.alloc (.cells (cells12 t u v) 110)).alloc (.cells (cells12 t' u' v') 110)) := bl_alloc (bl_a _) _
  go_enter Tryz.func80, Tryz.ntmps80
  go_wp2_with fail
  change Code.wp _ _ _ _ ((w.alloc (.cells (cells12 t u v) 110)).alloc (.cells (cells12 t' u' v') 110))
  generalize (w.alloc (.cells (cells12 t u v) 110)).alloc (.cells (cells12 t' u' v') 110) = w0 at *
  obtain ⟨_, ⟨x0, x1, x2, x3⟩, ⟨x4, x5, x6, x7⟩, ⟨x8, x9, xa, xb⟩⟩ := id hA
  obtain ⟨_, ⟨y0, y1, y2, y3⟩, ⟨y4, y5, y6, y7⟩, ⟨y8, y9, ya, yb⟩⟩ := id hX
  go_region_held3 (fun w' => w'.cell? ⟨w.heap.size, 0, none⟩ = some (.int .i64 t.k) ∧ w'.cell? ⟨w.heap.size, 1, none⟩ = some (.slice t.a t.len t.cap) ∧ w'.cell? ⟨w.heap.size, 2, none⟩ = some (.int .i64 t.n) ∧ w'.cell? ⟨w.heap.size, 3, none⟩ = some (.int .i64 t.s) ∧ w'.cell? ⟨w.heap.size, 4, none⟩ = some (.int .i64 u.k) ∧ w'.cell? ⟨w.heap.size, 5, none⟩ = some (.slice u.a u.len u.cap) ∧ w'.cell? ⟨w.heap.size, 6, none⟩ = some (.int .i64 u.n) ∧ w'.cell? ⟨w.heap.size, 7, none⟩ = some (.int .i64 u.s) ∧ w'.cell? ⟨w.heap.size, 8, none⟩ = some (.int .i64 v.k) ∧ w'.cell? ⟨w.heap.size, 9, none⟩ = some (.slice v.a v.len v.cap) ∧ w'.cell? ⟨w.heap.size, 10, none⟩ = some (.int .i64 v.n) ∧ w'.cell? ⟨w.heap.size, 11, none⟩ = some (.int .i64 v.s) ∧ w'.cell? ⟨w.heap.size + 1, 0, none⟩ = some (.int .i64 t'.k) ∧ w'.cell? ⟨w.heap.size + 1, 1, none⟩ = some (.slice t'.a t'.len t'.cap) ∧ w'.cell? ⟨w.heap.size + 1, 2, none⟩ = some (.int .i64 t'.n) ∧ w'.cell? ⟨w.heap.size + 1, 3, none⟩ = some (.int .i64 t'.s) ∧ w'.cell? ⟨w.heap.size + 1, 4, none⟩ = some (.int .i64 u'.k) ∧ w'.cell? ⟨w.heap.size + 1, 5, none⟩ = some (.slice u'.a u'.len u'.cap) ∧ w'.cell? ⟨w.heap.size + 1, 6, none⟩ = some (.int .i64 u'.n) ∧ w'.cell? ⟨w.heap.size + 1, 7, none⟩ = some (.int .i64 u'.s) ∧ w'.cell? ⟨w.heap.size + 1, 8, none⟩ = some (.int .i64 v'.k) ∧ w'.cell? ⟨w.heap.size + 1, 9, none⟩ = some (.slice v'.a v'.len v'.cap) ∧ w'.cell? ⟨w.heap.size + 1, 10, none⟩ = some (.int .i64 v'.n) ∧ w'.cell? ⟨w.heap.size + 1, 11, none⟩ = some (.int .i64 v'.s)) (simp [*, go_sem])
    (first
      | (go_at_call 82; have _t := tok1; refine (C1 _ (hT.below (bl_trans hw bl_drew3)) (hT'.below (bl_trans hw bl_drew3))).mono ?_; rintro e w1 ⟨rfl, hb1⟩; clear tok1; have hb1 := bl_trans bl_drew3 hb1; have hA1 := hA.below hb1; have hX1 := hX.below hb1; have hw1 := bl_trans hw hb1; obtain ⟨_, ⟨x0, x1, x2, x3⟩, ⟨x4, x5, x6, x7⟩, ⟨x8, x9, xa, xb⟩⟩ := id hA1; obtain ⟨_, ⟨y0, y1, y2, y3⟩, ⟨y4, y5, y6, y7⟩, ⟨y8, y9, ya, yb⟩⟩ := id hX1)
      | (go_at_call 82; have _t := tok2; refine (C2 _ (hU.below hw1) (hU'.below hw1)).mono ?_; rintro e w2 ⟨rfl, hb2⟩; clear tok2; have hA2 := hA1.below hb2; have hX2 := hX1.below hb2; have hw2 := bl_trans hw1 hb2; obtain ⟨_, ⟨x0, x1, x2, x3⟩, ⟨x4, x5, x6, x7⟩, ⟨x8, x9, xa, xb⟩⟩ := id hA2; obtain ⟨_, ⟨y0, y1, y2, y3⟩, ⟨y4, y5, y6, y7⟩, ⟨y8, y9, ya, yb⟩⟩ := id hX2)
      | (go_at_call 82; have _t := tok3; refine (C3 _ (hV.below hw2) (hV'.below hw2)).mono ?_; rintro e w3 ⟨rfl, hb3⟩; clear tok3; have hA3 := hA2.below hb3; have hX3 := hX2.below hb3; have hw3 := bl_trans hw2 hb3; obtain ⟨_, ⟨x0, x1, x2, x3⟩, ⟨x4, x5, x6, x7⟩, ⟨x8, x9, xa, xb⟩⟩ := id hA3; obtain ⟨_, ⟨y0, y1, y2, y3⟩, ⟨y4, y5, y6, y7⟩, ⟨y8, y9, ya, yb⟩⟩ := id hX3)
      | (go_at_call 111; refine (cmpOr3_any c1 c2 c3 _ _ (by simp [go_sem]) (by simp [go_sem]) (by simp [go_sem])).mono ?_; rintro e w4 ⟨rfl, rfl⟩))
  go_wp2
  go_ret
  exact ⟨rfl, bl_alloc hw3 _⟩
end Go.Proofs.YtdcaicoomldmgaaGreatDoor

/- StrE -/
namespace Go.Proofs.YtdcaicoomldmgaaGreatDoor
open Go.RowKit Go.Deep
set_option maxRecDepth 100000

/-- A term that may be, with its text. -/
def TB.good (x : TB) : Prop := x.td.good
theorem TB.ok {x : TB} (h : x.good) : termOk x.t.k x.b x.t.n x.t.s = true := h.1
theorem fits_of_ok {k n s : Int} {b : List Int} (h : termOk k b n s = true) : -9223372036854775808 ≤ n ∧ n ≤ 9223372036854775807 ∧ -9223372036854775808 ≤ s ∧ s ≤ 9223372036854775807 := by
  unfold termOk at h
  split at h
  · simp at h; omega
  split at h
  · simp at h; omega
  split at h
  · simp at h; omega
  split at h
  · simp only [Bool.and_eq_true] at h
    have := h.2
    simp [numOk] at this
    omega
  · cases h
theorem TB.fits {x : TB} (h : x.good) : x.t.fits := fits_of_ok h.1
theorem l1compare_tb (x y : TB) (w : World) (hx : x.good) (hy : y.good) (h : Bs w x.t.a x.t.len x.b) (h' : Bs w y.t.a y.t.len y.b) :
    Calls Tryz.prog 66 #[.agg #[.int .i64 x.t.k, .slice x.t.a x.t.len x.t.cap, .int .i64 x.t.n, .int .i64 x.t.s], .agg #[.int .i64 y.t.k, .slice y.t.a y.t.len y.t.cap, .int .i64 y.t.n, .int .i64 y.t.s]] w fun e w' => e = .returned (.int .i64 (x.td.cmp y.td)) ∧ Below w.heap.size w w' :=
  l1compare_tm x.t y.t x.b y.b w (TB.fits hx) (TB.fits hy) (TB.ok hx) (TB.ok hy) h h'

theorem idOf_at {l : List TD} {t : TD} {k : Nat} (hk : k < l.length) (h : ∀ j (h : j < k), (l[j]'(by omega)).cmp t ≠ 0) (he : l[k].cmp t = 0) : idOf l t = k + 1 := by
  unfold idOf
  have : l.findIdx? (fun x => decide (x.cmp t = 0)) = some k := by
    rw [List.findIdx?_eq_some_iff_getElem]
    refine ⟨hk, by simpa using he, fun j hj => ?_⟩
    simpa using h j hj
  rw [this]
  rfl
theorem idOf_none {l : List TD} {t : TD} (h : ∀ j (h : j < l.length), l[j].cmp t ≠ 0) : idOf l t = 0 := by
  unfold idOf
  have : l.findIdx? (fun x => decide (x.cmp t = 0)) = none := by
    rw [List.findIdx?_eq_none_iff]
    intro x hx
    obtain ⟨j, hj, rfl⟩ := List.getElem_of_mem hx
    simpa using h j hj
  rw [this]
  rfl

set_option maxHeartbeats 2000000 in
theorem l3id_any (a : Option Addr) (cap : Nat) (l : List TB) (x : TB) (w : World) (hn : l.length ≤ 1048576) (hR : TRow w a l) (hT : TTxt w l) (hg : ∀ y ∈ l, y.good) (hx : x.good) (hX : Bs w x.t.a x.t.len x.b) :
    Calls Tryz.prog 54 #[.slice a l.length cap, .agg #[.int .i64 x.t.k, .slice x.t.a x.t.len x.t.cap, .int .i64 x.t.n, .int .i64 x.t.s]] w fun e w' => e = .returned (.int .i64 (idOf (l.map TB.td) x.td : Nat)) ∧ Below w.heap.size w w' := by
  by_cases h0 : l = []
  · subst h0
    go_enter Tryz.func54, Tryz.ntmps54
    go_wp2
    refine wp_loop_rounds 1 ?_
    rw [rounds_succ]
    go_wp2
    go_ret
    exact ⟨rfl, bl_a _⟩
  obtain ⟨b, off, rfl, hlt, hc⟩ := hR.resolve_left h0
  have HC : Hid (∀ j u, (flat4 l)[j]? = some u → w.cell? ⟨b, off + j, none⟩ = some u) := hc
  have HT : Hid (TTxt w l) := hT
  have HG : Hid (∀ y ∈ l, y.good) := hg
  have HXX : Hid (Bs w x.t.a x.t.len x.b) := hX
  have HX0 : Hid x.good := hx
  obtain ⟨n, hnn⟩ : ∃ n, n = l.length := ⟨_, rfl⟩
  have HN : Hid (n = l.length) := hnn
  rw [← hnn] at hn ⊢
  obtain ⟨r, hr⟩ : ∃ r, r = idOf (l.map TB.td) x.td := ⟨_, rfl⟩
  have HRR : Hid (r = idOf (l.map TB.td) x.td) := hr
  rw [← hr]
  clear hnn hR hT hg hX hx hc hr h0
  go_enter Tryz.func54, Tryz.ntmps54
  go_wp2_with fail
  go_loopw [5] (fun i wr => ∃ k : Nat, k ≤ n ∧ i = .int .i64 k ∧ Hid (∀ j (h : j < l.length), j < k → l[j].td.cmp x.td ≠ 0) ∧ Hid (Below w.heap.size w wr) ∧ Hid (At4 wr w.heap.size (.int .i64 x.t.k) (.slice x.t.a x.t.len x.t.cap) (.int .i64 x.t.n) (.int .i64 x.t.s)))
    (fun i _ => n - (intOf i).toNat)
  case atStart => exact ⟨0, Nat.zero_le _, rfl, fun j _ hj => by omega, bl_a _, At4.new w _ _ _ _ _⟩
  case round =>
    obtain ⟨k, hk, rfl, HE, HB, HA⟩ := hrel
    by_cases hlk : k < n
    · have hkl : k < l.length := by rw [← HN.out]; exact hlk
      obtain ⟨y, hy⟩ : ∃ y, y = l[k] := ⟨_, rfl⟩
      have HY : Hid (y = l[k]) := hy
      have hcx := fun d os => TRow.at (l := l) (b := b) (off := off) (w := Go.Sort.grow (redrawn wr d) os) (fun j u hu => ((bl_trans HB.out (bl_regrown (w := wr) d os)).cell (p := ⟨b, off + j, none⟩) hlt).trans (HC.out j u hu)) k hkl
      rw [← hy] at hcx
      have a1 := fun d os => (hcx d os).1
      have a2 := fun d os => (hcx d os).2.1
      have a3 := fun d os => (hcx d os).2.2.1
      have a4 := fun d os => (hcx d os).2.2.2
      have b1 := fun d os => (HA.out.below (bl_regrown (w := wr) d os)).2.1
      have b2 := fun d os => (HA.out.below (bl_regrown (w := wr) d os)).2.2.1
      have b3 := fun d os => (HA.out.below (bl_regrown (w := wr) d os)).2.2.2.1
      have b4 := fun d os => (HA.out.below (bl_regrown (w := wr) d os)).2.2.2.2
      have hym : y ∈ l := by rw [hy]; exact List.getElem_mem hkl
      have C := fun d os => Calls.regrown_of (l1compare_tb y x (Go.Sort.grow (redrawn wr d) os) (HG.out y hym) HX0.out ((HT.out y hym).below (bl_trans HB.out (bl_regrown (w := wr) d os))) (HXX.out.below (bl_trans HB.out (bl_regrown (w := wr) d os))))
      clear hcx hy hym
      go_wp2_with fail
      refine wp_region_quiet_below (by kernel_rfl) (by kernel_rfl) ?_
      quiet_step (fail)
      quiet_step (fail)
      quiet_step (fail)
      quiet_step (fail)
      quiet_step (fail)
      quiet_step (exact C _ _)
      quiet_step (fail)
      refine wpQuiet_nil ?_
      intro _ hw'
      obtain ⟨⟨dq, osq⟩, hw''⟩ := hw'
      subst hw''
      have hbq := bl_regrown (w := wr) dq osq
      have HBq : Hid (Below w.heap.size w (Go.Sort.grow (redrawn wr dq) osq)) := bl_trans HB.out hbq
      have HAq : Hid (At4 (Go.Sort.grow (redrawn wr dq) osq) w.heap.size (.int .i64 x.t.k) (.slice x.t.a x.t.len x.t.cap) (.int .i64 x.t.n) (.int .i64 x.t.s)) := HA.out.below hbq
      clear a1 a2 a3 a4 b1 b2 b3 b4 HA HB hbq C
      dsimp only
      generalize Go.Sort.grow (redrawn wr dq) osq = wq at *
      by_cases hz : y.td.cmp x.td = 0
      · have hz' : (y.td.cmp x.td == 0) = true := by simp [hz]
        have HZ : Hid (y.td.cmp x.td = 0) := hz
        clear hz
        go_wp2_with fail
        go_ret
        refine ⟨?_, HBq.out⟩
        have : r = k + 1 := by
          rw [HRR.out]
          refine idOf_at (by simpa using hkl) (fun j hj => ?_) ?_
          · simpa using HE.out j (by omega) hj
          · have := HZ.out
            rw [HY.out] at this
            simpa using this
        rw [this]
        rfl
      · have hz' : (y.td.cmp x.td == 0) = false := by simp [hz]
        have HZ : Hid (y.td.cmp x.td ≠ 0) := hz
        clear hz
        go_wp2_with fail
        go_roundw
        case rel =>
          refine ⟨k + 1, by omega, by go_num, fun j hjl hj => ?_, HBq, HAq⟩
          by_cases e : j = k
          · subst e
            have := HZ.out
            rw [HY.out] at this
            exact this
          · exact HE.out j hjl (by omega)
        case measure => simp [intOf]; omega
    · obtain rfl : k = n := by omega
      have h0 : r = 0 := by
        rw [HRR.out]
        refine idOf_none fun j hj => ?_
        have hj' : j < l.length := by simpa using hj
        have := HE.out j hj' (by rw [HN.out]; exact hj')
        simpa using this
      subst h0
      go_wp2_with fail
      go_ret
      exact ⟨rfl, HB.out⟩
end Go.Proofs.YtdcaicoomldmgaaGreatDoor
