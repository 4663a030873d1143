/- Texts put together: GraF ReR DrwC -/
import Derived.Test.YtoclingolfdfeaaGreatDoorMk04
import Derived.Deep.RegionHeld3
import Derived.Test.YtoclingolfdfeaaGreatDoorMk03
import Derived.Test.YtoclingolfdfeaaGreatDoorMk02
/- GraF -/
namespace Go.Proofs.YtoclingolfdfeaaGreatDoor
open Go.RowKit Go.Deep

/-- One operation of a region that draws its order, taken first; its slot is d. -/
theorem take_at {P : Program} {md : Region.Mode} {ops : Array Oper} {Q : Exit → Act → World → Prop} {S : World → Prop} {i : Nat} {oi : Oper} {v : Value} {fuel : Nat} {listed : Array Bool} {a : Act} {w : World} (d : Nat) (hi : ops[i]? = some oi) (hd : oi.dst = some d)
    (hs : Region.noSelect ops = true) (hf : Region.free md ops listed i = true) (hr : (Region.ready md ops listed).contains i = true)
    (hQ : ∀ c a w, Q (.panic c) (a.put (some d) v) w → Q (.panic c) a w) (hy : YieldsIf P ops S oi v a) (hS : S w)
    (h : wpAnyH P md ops Q S fuel (listed.setIfInBounds i true) (a.put (some d) v) w) : wpAnyH P md ops Q S (fuel + 1) listed a w :=
  wpAnyH_take hi hs hf hr (by rw [hd]; exact hQ) hy hS (by rw [hd]; exact h)

theorem cmpOr3_any (x y z : Int) (b : Nat) (w : World) (h0 : w.cell? ⟨b, 0, none⟩ = some (.int .i64 x)) (h1 : w.cell? ⟨b, 1, none⟩ = some (.int .i64 y)) (h2 : w.cell? ⟨b, 2, none⟩ = some (.int .i64 z)) :
    Calls Tryz.prog 73 #[.slice (some ⟨b, 0, none⟩) 3 3] w fun e w' => e = .returned (.int .i64 (cmp3 x y z)) ∧ w' = w := by
  by_cases hx : x = 0
  · subst hx
    by_cases hy : y = 0
    · subst hy
      by_cases hz : z = 0
      · subst hz
        have e0 : cmp3 0 0 0 = 0 := rfl
        rw [e0]
        go_enter Tryz.func73, Tryz.ntmps73
        go_wp2
        refine wp_loop_rounds 4 ?_
        rw [rounds_succ]
        go_wp2
        rw [rounds_succ]
        go_wp2
        rw [rounds_succ]
        go_wp2
        rw [rounds_succ]
        go_wp2
        go_ret
        exact ⟨rfl, rfl⟩
      · have hz' : (z != 0) = true := by simp; omega
        have e0 : cmp3 0 0 z = z := rfl
        rw [e0]
        clear hz
        go_enter Tryz.func73, Tryz.ntmps73
        go_wp2
        refine wp_loop_rounds 3 ?_
        rw [rounds_succ]
        go_wp2
        rw [rounds_succ]
        go_wp2
        rw [rounds_succ]
        go_wp2
        go_ret
        exact ⟨rfl, rfl⟩
    · have hy' : (y != 0) = true := by simp; omega
      have e0 : cmp3 0 y z = y := by unfold cmp3 orI; simp [hy]
      rw [e0]
      clear hy
      go_enter Tryz.func73, Tryz.ntmps73
      go_wp2
      refine wp_loop_rounds 2 ?_
      rw [rounds_succ]
      go_wp2
      rw [rounds_succ]
      go_wp2
      go_ret
      exact ⟨rfl, rfl⟩
  · have hx' : (x != 0) = true := by simp; omega
    have e0 : cmp3 x y z = x := by unfold cmp3 orI; simp [hx]
    rw [e0]
    clear hx
    go_enter Tryz.func73, Tryz.ntmps73
    go_wp2
    refine wp_loop_rounds 1 ?_
    rw [rounds_succ]
    go_wp2
    go_ret
    exact ⟨rfl, rfl⟩

/-- Two terms that may be, compared. -/
def tcmp (t t' : Tm) (b b' : List Int) : Int := cmp3 (cmpI t.k t'.k) (cmpB b b') (cmpN t.n t.s.toNat t'.n t'.s.toNat)
/-- Two triples that may be. -/
def tcmp3 (t u v t' u' v' : Tm) (bt bu bv bt' bu' bv' : List Int) : Int := cmp3 (tcmp t t' bt bt') (tcmp u u' bu bu') (tcmp v v' bv bv')
theorem tripleOk_out {t u v : Tm} {bt bu bv : List Int} (h : tripleOk t u v bt bu bv = true) : termOk t.k bt t.n t.s = true ∧ termOk u.k bu u.n u.s = true ∧ termOk v.k bv v.n v.s = true := by
  unfold tripleOk at h
  simp only [Bool.and_eq_true] at h
  exact ⟨h.1.1.1.1, h.1.1.1.2, h.1.1.2⟩

theorem l1compare_tm (t t' : Tm) (b b' : List Int) (w : World) (f : t.fits) (f' : t'.fits) (o : termOk t.k b t.n t.s = true) (o' : termOk t'.k b' t'.n t'.s = true) (h : Bs w t.a t.len b) (h' : Bs w t'.a t'.len b') :
    Calls Tryz.prog 76 #[.agg #[.int .i64 t.k, .slice t.a t.len t.cap, .int .i64 t.n, .int .i64 t.s], .agg #[.int .i64 t'.k, .slice t'.a t'.len t'.cap, .int .i64 t'.n, .int .i64 t'.s]] w fun e w' => e = .returned (.int .i64 (tcmp t t' b b')) ∧ Below w.heap.size w w' := by
  have s1 := termOk_scale o
  have s2 := termOk_scale o'
  unfold tcmp
  obtain ⟨m, hm⟩ : ∃ m : Nat, t.s = m := ⟨t.s.toNat, by omega⟩
  obtain ⟨m', hm'⟩ : ∃ m : Nat, t'.s = m := ⟨t'.s.toNat, by omega⟩
  have := l1compare_any t.k t.n t'.k t'.n m m' t.a t'.a t.len t.cap t'.len t'.cap b b' w h h' (by omega) f.1 f.2.1 (by omega) f'.1 f'.2.1 (by rw [← hm]; exact o) (by rw [← hm']; exact o')
  rw [hm, hm']
  simpa using this
theorem implCompare_tm (t t' : Tm) (b b' : List Int) (w : World) (f : t.fits) (f' : t'.fits) (o : termOk t.k b t.n t.s = true) (o' : termOk t'.k b' t'.n t'.s = true) (h : Bs w t.a t.len b) (h' : Bs w t'.a t'.len b') :
    Calls Tryz.prog 74 #[.agg #[.int .i64 t.k, .slice t.a t.len t.cap, .int .i64 t.n, .int .i64 t.s], .agg #[.int .i64 t'.k, .slice t'.a t'.len t'.cap, .int .i64 t'.n, .int .i64 t'.s]] w fun e w' => e = .returned (.int .i64 (tcmp t t' b b')) ∧ Below w.heap.size w w' := by
  have := implCompare_any t.k t.n t.s t'.k t'.n t'.s t.a t'.a t.len t.cap t'.len t'.cap b b' w h h' f.1 f.2.1 f.2.2.1 f.2.2.2 f'.1 f'.2.1 f'.2.2.1 f'.2.2.2
  rw [o, o'] at this
  exact this

theorem l2compare_any (t u v t' u' v' : Tm) (bt bu bv bt' bu' bv' : List Int) (w : World) (ft : t.fits) (fu : u.fits) (fv : v.fits) (ft' : t'.fits) (fu' : u'.fits) (fv' : v'.fits)
    (o : tripleOk t u v bt bu bv = true) (o' : tripleOk t' u' v' bt' bu' bv' = true) (hT : Bs w t.a t.len bt) (hU : Bs w u.a u.len bu) (hV : Bs w v.a v.len bv) (hT' : Bs w t'.a t'.len bt') (hU' : Bs w u'.a u'.len bu') (hV' : Bs w v'.a v'.len bv') :
    Calls Tryz.prog 47 #[.agg #[.int .i64 t.k, .slice t.a t.len t.cap, .int .i64 t.n, .int .i64 t.s, .int .i64 u.k, .slice u.a u.len u.cap, .int .i64 u.n, .int .i64 u.s, .int .i64 v.k, .slice v.a v.len v.cap, .int .i64 v.n, .int .i64 v.s], .agg #[.int .i64 t'.k, .slice t'.a t'.len t'.cap, .int .i64 t'.n, .int .i64 t'.s, .int .i64 u'.k, .slice u'.a u'.len u'.cap, .int .i64 u'.n, .int .i64 u'.s, .int .i64 v'.k, .slice v'.a v'.len v'.cap, .int .i64 v'.n, .int .i64 v'.s]] w fun e w' => e = .returned (.int .i64 (tcmp3 t u v t' u' v' bt bu bv bt' bu' bv')) ∧ Below w.heap.size w w' := by
  obtain ⟨o1, o2, o3⟩ := tripleOk_out o
  obtain ⟨o1', o2', o3'⟩ := tripleOk_out o'
  have C1 := fun w h h' => l1compare_tm t t' bt bt' w ft ft' o1 o1' h h'
  have C2 := fun w h h' => l1compare_tm u u' bu bu' w fu fu' o2 o2' h h'
  have C3 := fun w h h' => l1compare_tm v v' bv bv' w fv fv' o3 o3' h h'
  clear o o' o1 o2 o3 o1' o2' o3' ft fu fv ft' fu' fv'
  unfold tcmp3
  generalize tcmp t t' bt bt' = c1 at *
  generalize tcmp u u' bu bu' = c2 at *
  generalize tcmp v v' bv bv' = c3 at *
  by_cases e1 : c1 = 0
  · subst e1
    by_cases e2 : c2 = 0
    · subst e2
      have e0 : cmp3 0 0 c3 = c3 := rfl
      rw [e0]
      go_enter Tryz.func47, Tryz.ntmps47
      go_wp2_with fail
      refine (C1 _ (hT.below (bl_alloc (bl_a _) _)) (hT'.below (bl_alloc (bl_a _) _))).mono ?_
      rintro e w1 ⟨rfl, hb1⟩
      have hA := (Own12.at w w.heap.size t u v 36 rfl).1.below (bl_trans (bl_a _) hb1)
      have hX := (Own12.at (w.alloc _) (w.heap.size + 1) t' u' v' 36 (by simp)).1.below hb1
      have hw := bl_trans (bl_alloc (bl_a _) _) hb1
      clear hb1
      obtain ⟨_, ⟨x0, x1, x2, x3⟩, ⟨x4, x5, x6, x7⟩, ⟨x8, x9, xa, xb⟩⟩ := id hA
      obtain ⟨_, ⟨y0, y1, y2, y3⟩, ⟨y4, y5, y6, y7⟩, ⟨y8, y9, ya, yb⟩⟩ := id hX
      go_wp2_with fail
      refine (C2 _ (hU.below hw) (hU'.below hw)).mono ?_
      rintro e w2 ⟨rfl, hb2⟩
      replace hA := hA.below hb2
      replace hX := hX.below hb2
      replace hw := bl_trans hw hb2
      clear hb2
      clear x0 x1 x2 x3 x4 x5 x6 x7 x8 x9 xa xb
      clear y0 y1 y2 y3 y4 y5 y6 y7 y8 y9 ya yb
      obtain ⟨_, ⟨x0, x1, x2, x3⟩, ⟨x4, x5, x6, x7⟩, ⟨x8, x9, xa, xb⟩⟩ := id hA
      obtain ⟨_, ⟨y0, y1, y2, y3⟩, ⟨y4, y5, y6, y7⟩, ⟨y8, y9, ya, yb⟩⟩ := id hX
      go_wp2_with fail
      refine (C3 _ (hV.below hw) (hV'.below hw)).mono ?_
      rintro e w3 ⟨rfl, hb3⟩
      replace hw := bl_trans hw hb3
      go_wp2
      go_ret
      exact ⟨rfl, hw⟩
    · have e0 : cmp3 0 c2 c3 = c2 := by unfold cmp3 orI; simp [e2]
      have e2' : (c2 == 0) = false := by simp [e2]
      rw [e0]
      clear e2
      go_enter Tryz.func47, Tryz.ntmps47
      go_wp2_with fail
      refine (C1 _ (hT.below (bl_alloc (bl_a _) _)) (hT'.below (bl_alloc (bl_a _) _))).mono ?_
      rintro e w1 ⟨rfl, hb1⟩
      have hA := (Own12.at w w.heap.size t u v 36 rfl).1.below (bl_trans (bl_a _) hb1)
      have hX := (Own12.at (w.alloc _) (w.heap.size + 1) t' u' v' 36 (by simp)).1.below hb1
      have hw := bl_trans (bl_alloc (bl_a _) _) hb1
      clear hb1
      obtain ⟨_, ⟨x0, x1, x2, x3⟩, ⟨x4, x5, x6, x7⟩, ⟨x8, x9, xa, xb⟩⟩ := id hA
      obtain ⟨_, ⟨y0, y1, y2, y3⟩, ⟨y4, y5, y6, y7⟩, ⟨y8, y9, ya, yb⟩⟩ := id hX
      go_wp2_with fail
      refine (C2 _ (hU.below hw) (hU'.below hw)).mono ?_
      rintro e w2 ⟨rfl, hb2⟩
      replace hA := hA.below hb2
      replace hX := hX.below hb2
      replace hw := bl_trans hw hb2
      clear hb2
      clear x0 x1 x2 x3 x4 x5 x6 x7 x8 x9 xa xb
      clear y0 y1 y2 y3 y4 y5 y6 y7 y8 y9 ya yb
      obtain ⟨_, ⟨x0, x1, x2, x3⟩, ⟨x4, x5, x6, x7⟩, ⟨x8, x9, xa, xb⟩⟩ := id hA
      obtain ⟨_, ⟨y0, y1, y2, y3⟩, ⟨y4, y5, y6, y7⟩, ⟨y8, y9, ya, yb⟩⟩ := id hX
      go_wp2
      go_ret
      exact ⟨rfl, hw⟩
  · have e0 : cmp3 c1 c2 c3 = c1 := by unfold cmp3 orI; simp [e1]
    have e1' : (c1 == 0) = false := by simp [e1]
    rw [e0]
    clear e1
    go_enter Tryz.func47, Tryz.ntmps47
    go_wp2_with fail
    refine (C1 _ (hT.below (bl_alloc (bl_a _) _)) (hT'.below (bl_alloc (bl_a _) _))).mono ?_
    rintro e w1 ⟨rfl, hb1⟩
    have hA := (Own12.at w w.heap.size t u v 36 rfl).1.below (bl_trans (bl_a _) hb1)
    have hX := (Own12.at (w.alloc _) (w.heap.size + 1) t' u' v' 36 (by simp)).1.below hb1
    have hw := bl_trans (bl_alloc (bl_a _) _) hb1
    clear hb1
    obtain ⟨_, ⟨x0, x1, x2, x3⟩, ⟨x4, x5, x6, x7⟩, ⟨x8, x9, xa, xb⟩⟩ := id hA
    obtain ⟨_, ⟨y0, y1, y2, y3⟩, ⟨y4, y5, y6, y7⟩, ⟨y8, y9, ya, yb⟩⟩ := id hX
    go_wp2
    go_ret
    exact ⟨rfl, hw⟩

theorem bl_drew3 {w : World} : Below w.heap.size w w.drew := Below.drew (Below.refl _ _)

set_option maxRecDepth 20000 in
set_option maxHeartbeats 2000000 in
theorem compareTriples_any (t u v t' u' v' : Tm) (bt bu bv bt' bu' bv' : List Int) (w : World) (ft : t.fits) (fu : u.fits) (fv : v.fits) (ft' : t'.fits) (fu' : u'.fits) (fv' : v'.fits)
    (o : tripleOk t u v bt bu bv = true) (o' : tripleOk t' u' v' bt' bu' bv' = true) (hT : Bs w t.a t.len bt) (hU : Bs w u.a u.len bu) (hV : Bs w v.a v.len bv) (hT' : Bs w t'.a t'.len bt') (hU' : Bs w u'.a u'.len bu') (hV' : Bs w v'.a v'.len bv') :
    Calls Tryz.prog 42 #[.agg #[.int .i64 t.k, .slice t.a t.len t.cap, .int .i64 t.n, .int .i64 t.s, .int .i64 u.k, .slice u.a u.len u.cap, .int .i64 u.n, .int .i64 u.s, .int .i64 v.k, .slice v.a v.len v.cap, .int .i64 v.n, .int .i64 v.s], .agg #[.int .i64 t'.k, .slice t'.a t'.len t'.cap, .int .i64 t'.n, .int .i64 t'.s, .int .i64 u'.k, .slice u'.a u'.len u'.cap, .int .i64 u'.n, .int .i64 u'.s, .int .i64 v'.k, .slice v'.a v'.len v'.cap, .int .i64 v'.n, .int .i64 v'.s]] w fun e w' => e = .returned (.int .i64 (tcmp3 t u v t' u' v' bt bu bv bt' bu' bv')) ∧ Below w.heap.size w w' := by
  obtain ⟨o1, o2, o3⟩ := tripleOk_out o
  obtain ⟨o1', o2', o3'⟩ := tripleOk_out o'
  have C1 := fun w h h' => implCompare_tm t t' bt bt' w ft ft' o1 o1' h h'
  have C2 := fun w h h' => implCompare_tm u u' bu bu' w fu fu' o2 o2' h h'
  have C3 := fun w h h' => implCompare_tm v v' bv bv' w fv fv' o3 o3' h h'
  clear o o' o1 o2 o3 o1' o2' o3' ft fu fv ft' fu' fv'
  unfold tcmp3
  generalize tcmp t t' bt bt' = c1 at *
  generalize tcmp u u' bu bu' = c2 at *
  generalize tcmp v v' bv bv' = c3 at *
  have tok1 : True := trivial
  have tok2 : True := trivial
  have tok3 : True := trivial
  have hA : ∀ T, At12 ((w.alloc (.cells (cells12 t u v) T)).alloc (.cells (cells12 t' u' v') T)) w.heap.size t u v := fun T => (Own12.at w w.heap.size t u v T rfl).1.below (bl_a _)
  have hX : ∀ T, At12 ((w.alloc (.cells (cells12 t u v) T)).alloc (.cells (cells12 t' u' v') T)) (w.heap.size + 1) t' u' v' := fun T => (Own12.at (w.alloc _) (w.heap.size + 1) t' u' v' T (by simp)).1
  replace hA := hA 36
  replace hX := hX 36
  have hw : Below w.heap.size w ((w.alloc (.cells (cells12 t u v) 36)).alloc (.cells (cells12 t' u' v') 36)) := bl_alloc (bl_a _) _
  go_enter Tryz.func42, Tryz.ntmps42
  go_wp2_with fail
  change Code.wp _ _ _ _ ((w.alloc (.cells (cells12 t u v) 36)).alloc (.cells (cells12 t' u' v') 36))
  generalize (w.alloc (.cells (cells12 t u v) 36)).alloc (.cells (cells12 t' u' v') 36) = w0 at *
  obtain ⟨_, ⟨x0, x1, x2, x3⟩, ⟨x4, x5, x6, x7⟩, ⟨x8, x9, xa, xb⟩⟩ := id hA
  obtain ⟨_, ⟨y0, y1, y2, y3⟩, ⟨y4, y5, y6, y7⟩, ⟨y8, y9, ya, yb⟩⟩ := id hX
  go_region_held3 (fun w' => w'.cell? ⟨w.heap.size, 0, none⟩ = some (.int .i64 t.k) ∧ w'.cell? ⟨w.heap.size, 1, none⟩ = some (.slice t.a t.len t.cap) ∧ w'.cell? ⟨w.heap.size, 2, none⟩ = some (.int .i64 t.n) ∧ w'.cell? ⟨w.heap.size, 3, none⟩ = some (.int .i64 t.s) ∧ w'.cell? ⟨w.heap.size, 4, none⟩ = some (.int .i64 u.k) ∧ w'.cell? ⟨w.heap.size, 5, none⟩ = some (.slice u.a u.len u.cap) ∧ w'.cell? ⟨w.heap.size, 6, none⟩ = some (.int .i64 u.n) ∧ w'.cell? ⟨w.heap.size, 7, none⟩ = some (.int .i64 u.s) ∧ w'.cell? ⟨w.heap.size, 8, none⟩ = some (.int .i64 v.k) ∧ w'.cell? ⟨w.heap.size, 9, none⟩ = some (.slice v.a v.len v.cap) ∧ w'.cell? ⟨w.heap.size, 10, none⟩ = some (.int .i64 v.n) ∧ w'.cell? ⟨w.heap.size, 11, none⟩ = some (.int .i64 v.s) ∧ w'.cell? ⟨w.heap.size + 1, 0, none⟩ = some (.int .i64 t'.k) ∧ w'.cell? ⟨w.heap.size + 1, 1, none⟩ = some (.slice t'.a t'.len t'.cap) ∧ w'.cell? ⟨w.heap.size + 1, 2, none⟩ = some (.int .i64 t'.n) ∧ w'.cell? ⟨w.heap.size + 1, 3, none⟩ = some (.int .i64 t'.s) ∧ w'.cell? ⟨w.heap.size + 1, 4, none⟩ = some (.int .i64 u'.k) ∧ w'.cell? ⟨w.heap.size + 1, 5, none⟩ = some (.slice u'.a u'.len u'.cap) ∧ w'.cell? ⟨w.heap.size + 1, 6, none⟩ = some (.int .i64 u'.n) ∧ w'.cell? ⟨w.heap.size + 1, 7, none⟩ = some (.int .i64 u'.s) ∧ w'.cell? ⟨w.heap.size + 1, 8, none⟩ = some (.int .i64 v'.k) ∧ w'.cell? ⟨w.heap.size + 1, 9, none⟩ = some (.slice v'.a v'.len v'.cap) ∧ w'.cell? ⟨w.heap.size + 1, 10, none⟩ = some (.int .i64 v'.n) ∧ w'.cell? ⟨w.heap.size + 1, 11, none⟩ = some (.int .i64 v'.s)) (simp [*, go_sem])
    (first
      | (go_at_call 74; have _t := tok1; refine (C1 _ (hT.below (bl_trans hw bl_drew3)) (hT'.below (bl_trans hw bl_drew3))).mono ?_; rintro e w1 ⟨rfl, hb1⟩; clear tok1; have hb1 := bl_trans bl_drew3 hb1; have hA1 := hA.below hb1; have hX1 := hX.below hb1; have hw1 := bl_trans hw hb1; obtain ⟨_, ⟨x0, x1, x2, x3⟩, ⟨x4, x5, x6, x7⟩, ⟨x8, x9, xa, xb⟩⟩ := id hA1; obtain ⟨_, ⟨y0, y1, y2, y3⟩, ⟨y4, y5, y6, y7⟩, ⟨y8, y9, ya, yb⟩⟩ := id hX1)
      | (go_at_call 74; have _t := tok2; refine (C2 _ (hU.below hw1) (hU'.below hw1)).mono ?_; rintro e w2 ⟨rfl, hb2⟩; clear tok2; have hA2 := hA1.below hb2; have hX2 := hX1.below hb2; have hw2 := bl_trans hw1 hb2; obtain ⟨_, ⟨x0, x1, x2, x3⟩, ⟨x4, x5, x6, x7⟩, ⟨x8, x9, xa, xb⟩⟩ := id hA2; obtain ⟨_, ⟨y0, y1, y2, y3⟩, ⟨y4, y5, y6, y7⟩, ⟨y8, y9, ya, yb⟩⟩ := id hX2)
      | (go_at_call 74; have _t := tok3; refine (C3 _ (hV.below hw2) (hV'.below hw2)).mono ?_; rintro e w3 ⟨rfl, hb3⟩; clear tok3; have hA3 := hA2.below hb3; have hX3 := hX2.below hb3; have hw3 := bl_trans hw2 hb3; obtain ⟨_, ⟨x0, x1, x2, x3⟩, ⟨x4, x5, x6, x7⟩, ⟨x8, x9, xa, xb⟩⟩ := id hA3; obtain ⟨_, ⟨y0, y1, y2, y3⟩, ⟨y4, y5, y6, y7⟩, ⟨y8, y9, ya, yb⟩⟩ := id hX3)
      | (go_at_call 73; refine (cmpOr3_any c1 c2 c3 _ _ (by simp [go_sem]) (by simp [go_sem]) (by simp [go_sem])).mono ?_; rintro e w4 ⟨rfl, rfl⟩))
  go_wp2
  go_ret
  exact ⟨rfl, bl_alloc hw3 _⟩
end Go.Proofs.YtoclingolfdfeaaGreatDoor

/- ReR -/
namespace Go.Proofs.YtoclingolfdfeaaGreatDoor
open Go.RowKit Go.Deep
set_option maxRecDepth 100000

theorem l1Below_big (g : Nat) (a : Option Addr) (len cap n : Nat) (w : World) (hlen : len ≤ 9223372036854775807) (hC : Cur w g a len cap) (h1 : 256 < n) (h2 : n ≤ 1000000) :
    Calls Tryz.prog 59 #[.pointer (some ⟨g, 0, none⟩), .int .i64 n] w fun e w' => Drawn g a len cap w n e w' := by
  have B := fun w h => l1Byte_any g a len cap w hlen h
  have HC : Hid (Cur w g a len cap) := hC
  clear hC
  go_enter Tryz.func59, Tryz.ntmps59
  go_wp2_with fail
  refine (B _ HC.out).mono ?_
  rintro e w1 ⟨x, rfl, x0, x1, hP1, hC1⟩
  have HP1 : Hid (Past g w w1) := hP1
  have HC1 : Hid (Cur w1 g a len cap) := hC1
  clear HC hP1 hC1
  go_wp2_with fail
  refine (B _ HC1.out).mono ?_
  rintro e w2 ⟨y, rfl, y0, y1, hP2, hC2⟩
  have HP2 : Hid (Past g w w2) := HP1.out.trans hP2
  have HC2 : Hid (Cur w2 g a len cap) := hC2
  clear HP1 HC1 hP2 hC2
  go_wp2_with fail
  refine (B _ HC2.out).mono ?_
  rintro e w3 ⟨z, rfl, z0, z1, hP3, hC3⟩
  have HP3 : Hid (Past g w w3) := HP2.out.trans hP3
  have HC3 : Hid (Cur w3 g a len cap) := hC3
  clear HP2 HC2 hP3 hC3
  go_wp2_with fail
  refine (B _ HC3.out).mono ?_
  rintro e w4 ⟨u, rfl, u0, u1, hP4, hC4⟩
  have HP4 : Hid (Past g w w4) := HP3.out.trans hP4
  have HC4 : Hid (Cur w4 g a len cap) := hC4
  clear HP3 HC3 hP4 hC4 B
  obtain ⟨m, hm⟩ : ∃ m : Nat, (m : Int) = x * 16777216 + y * 65536 + z * 256 + u := ⟨(x * 16777216 + y * 65536 + z * 256 + u).toNat, by omega⟩
  go_wp2
  go_ret
  refine ⟨m % n, ?_, Nat.mod_lt _ (by omega), HP4.out, HC4.out⟩
  rw [← hm, Int.natCast_emod]
  rfl
theorem l1Below_all (g : Nat) (a : Option Addr) (len cap n : Nat) (w : World) (hlen : len ≤ 9223372036854775807) (hC : Cur w g a len cap) (h1 : 1 ≤ n) (h2 : n ≤ 1000000) :
    Calls Tryz.prog 59 #[.pointer (some ⟨g, 0, none⟩), .int .i64 n] w fun e w' => Drawn g a len cap w n e w' := by
  by_cases h : n ≤ 256
  · exact l1Below_any g a len cap n w hlen hC h1 h
  · exact l1Below_big g a len cap n w hlen hC (by omega) h2
/-- What l2spoil answers of a text of n bytes. -/
def SpoilRes (g : Nat) (a : Option Addr) (len cap : Nat) (n : Nat) (w : World) (e : Ending) (w' : World) : Prop :=
  ∃ ar cr bs, e = .returned (.slice ar bs.length cr) ∧ bs.length ≤ n + 4 ∧ Tz w' w.heap.size ar bs.length cr bs ∧ Past g w w' ∧ Cur w' g a len cap
end Go.Proofs.YtoclingolfdfeaaGreatDoor

/- DrwC -/
namespace Go.Proofs.YtoclingolfdfeaaGreatDoor
open Go.RowKit Go.Deep

/-- What a draw of a term answers, the cursor in block g. -/
def TermDrawn (g : Nat) (a : Option Addr) (len cap : Nat) (w : World) (e : Ending) (w' : World) : Prop := TermRes w.heap.size e w' ∧ Past g w w' ∧ Cur w' g a len cap

theorem Past.set_new {g : Nat} {w w' : World} (h : Past g w w') {p : Addr} (hp : w.heap.size ≤ p.block) (v : Value) : Past g w (w'.setCell p v) :=
  ⟨h.os, h.tape, h.output, by simpa using h.size, fun b hb hn => (Below.heap_setCell _ _ _ _ (by omega)).trans (h.block b hb hn)⟩
theorem Cur.glue {w w3 w' : World} {g : Nat} {a : Option Addr} {len cap : Nat} (h : Cur w g a len cap) (h3 : Cur w3 g a len cap) (hP : Past g w w') (hg : w'.heap[g]? = w3.heap[g]?) : Cur w' g a len cap := by
  have e : ∀ i, w'.cell? ⟨g, i, none⟩ = w3.cell? ⟨g, i, none⟩ := fun i => World.cell?_of_block (w := w3) (a := ⟨g, i, none⟩) hg
  have f : ∀ i, w'.frozen? ⟨g, i, none⟩ = w3.frozen? ⟨g, i, none⟩ := fun i => World.frozen?_of_block (w := w3) (a := ⟨g, i, none⟩) hg
  refine ⟨Nat.lt_of_lt_of_le h.lt hP.size, (e 0).trans h3.c0, ?_, ?_, (f 1).trans h3.f1, (f 2).trans h3.f2, ?_⟩
  · rw [e 1]; exact h3.c1
  · rw [e 2]; exact h3.c2
  · rcases h.code with hc | ⟨b, off, ha, hlt, hn, hc⟩
    · exact .inl hc
    · refine .inr ⟨b, off, ha, Nat.lt_of_lt_of_le hlt hP.size, hn, fun i hi => ?_⟩
      rw [hP.cell (p := ⟨b, off + i, none⟩) hlt hn]
      exact hc i hi
theorem numP_bounds (q : Int) (z : Nat) : (-9223372036854775808 ≤ tN (numP q z) ∧ tN (numP q z) ≤ 9223372036854775807) ∧ (-9223372036854775808 ≤ tS (numP q z) ∧ tS (numP q z) ≤ 9223372036854775807) := by
  unfold tN tS
  by_cases h : numOk (numP q z).1 (numP q z).2 = true
  · rw [if_pos h, if_pos h]
    simp only [numOk, Bool.and_eq_true, decide_eq_true_eq] at h
    omega
  · rw [if_neg h, if_neg h]
    omega
theorem numP_b6 (q : Int) (z : Nat) : 0 ≤ tS (numP q z) ∧ tS (numP q z) ≤ 6 := by
  unfold tS
  by_cases h : numOk (numP q z).1 (numP q z).2 = true
  · rw [if_pos h]
    simp only [numOk, Bool.and_eq_true, decide_eq_true_eq] at h
    omega
  · rw [if_neg h]
    omega
/-- The end of a draw: the answer is laid into block r and given back. -/
theorem term_end {g : Nat} {a : Option Addr} {len cap : Nat} {w w3 : World} {k n s : Int} {ta : Option Addr} {tl tc : Nat} {bs : List Int} {r B : Nat} (hC : Cur w g a len cap) (hP : Past g w w3) (hC3 : Cur w3 g a len cap) (hT : Tx w3 B ta tl tc bs) (hB : r < B) (hr : w.heap.size ≤ r) (hrg : g ≠ r)
    (hn : -9223372036854775808 ≤ n ∧ n ≤ 9223372036854775807) (hs : 0 ≤ s ∧ s ≤ 6) (hl : tl ≤ 100) :
    TermDrawn g a len cap w (.returned (.agg #[.int .i64 k, .slice ta tl tc, .int .i64 n, .int .i64 s])) ((((w3.setCell ⟨r, 0, none⟩ (.int .i64 k)).setCell ⟨r, 1, none⟩ (.slice ta tl tc)).setCell ⟨r, 2, none⟩ (.int .i64 n)).setCell ⟨r, 3, none⟩ (.int .i64 s)) := by
  have hQ : Past r w3 ((((w3.setCell ⟨r, 0, none⟩ (.int .i64 k)).setCell ⟨r, 1, none⟩ (.slice ta tl tc)).setCell ⟨r, 2, none⟩ (.int .i64 n)).setCell ⟨r, 3, none⟩ (.int .i64 s)) := ((((Past.refl r w3).set 0 _).set 1 _).set 2 _).set 3 _
  have hP' : Past g w ((((w3.setCell ⟨r, 0, none⟩ (.int .i64 k)).setCell ⟨r, 1, none⟩ (.slice ta tl tc)).setCell ⟨r, 2, none⟩ (.int .i64 n)).setCell ⟨r, 3, none⟩ (.int .i64 s)) := (((hP.set_new (p := ⟨r, 0, none⟩) hr _).set_new (p := ⟨r, 1, none⟩) hr _).set_new (p := ⟨r, 2, none⟩) hr _).set_new (p := ⟨r, 3, none⟩) hr _
  exact ⟨⟨k, n, s, ta, tl, tc, bs, rfl, hn, hs, hl, (hT.past hQ hB).mono (by omega)⟩, hP', hC.glue hC3 hP' (hQ.block g hC3.lt hrg)⟩

set_option maxRecDepth 20000 in
set_option maxHeartbeats 2000000 in
theorem l1term_any (g : Nat) (a : Option Addr) (len cap : Nat) (w : World) (hlen : len ≤ 9223372036854775807) (hC : Cur w g a len cap) :
    Calls Tryz.prog 57 #[.pointer (some ⟨g, 0, none⟩)] w fun e w' => TermDrawn g a len cap w e w' := by
  have B := fun w (n : Nat) (h : Cur w g a len cap) (h1 : 1 ≤ n) (h2 : n ≤ 256) => l1Below_any g a len cap n w hlen h h1 h2
  have O := fun w (n : Nat) (h : Cur w g a len cap) (h1 : 1 ≤ n) (h2 : n ≤ 256) => l1Once_any g a len cap n w hlen h h1 h2
  have hgl := hC.lt
  have HC : Hid (Cur w g a len cap) := hC
  clear hC
  go_enter Tryz.func57, Tryz.ntmps57
  go_wp2_with fail
  refine (B _ 6 (HC.out.below (bl_a _)) (by omega) (by omega)).mono ?_
  rintro e w1 ⟨x, rfl, hx, hP1, hC1⟩
  have hR1 := (Own4.at w w.heap.size (.int .i64 0) (.slice none 0 0) (.int .i64 0) (.int .i64 0) 24 rfl)
  have hR : Own4 w1 w.heap.size (.int .i64 0) (.slice none 0 0) (.int .i64 0) (.int .i64 0) := hR1.past hP1 (by omega)
  have hP := (Past.of_below (g := g) (bl_a (w := w) (.cells #[.int .i64 0, .slice none 0 0, .int .i64 0, .int .i64 0] 24))).trans hP1
  have hs1 := hP1.size
  simp at hs1
  clear hR1 hP1
  by_cases hx2 : x = 2
  · subst hx2
    go_wp2_with fail
    refine (B _ 4 hC1 (by omega) (by omega)).mono ?_
    rintro e w2 ⟨y, rfl, hy, hP2, hC2⟩
    have hR2 := hR.past hP2 (by omega)
    replace hP := hP.trans hP2
    have HP : Hid (Past g w w2) := hP
    have HC2 : Hid (Cur w2 g a len cap) := hC2
    obtain ⟨⟨o0, o1, o2, o3, o4⟩, f0, f1, f2, f3⟩ := id hR2
    clear B O hC1 hR hP hP2 hC2 hR2
    go_wp2
    refine bodyPost_ret (v := .agg #[.int .i64 1, .slice none 0 0, .int .i64 y, .int .i64 0]) (by simp [results, Tryz.results57, go_sem, *]) rfl ?_
    exact term_end HC.out HP.out HC2.out (Tx.nil w2 (w.heap.size + 1)) (by omega) (Nat.le_refl _) (by omega) (by omega) (by omega) (by omega)
  by_cases hx3 : x ≤ 1
  · have hxx : x = 0 ∨ x = 1 := by omega
    rcases hxx with rfl | rfl
    · go_wp2_with fail
      refine (B _ 6 (hC1.below (bl_a _)) (by omega) (by omega)).mono ?_
      rintro e w2 ⟨y, rfl, hy, hP2, hC2⟩
      have hcl := hP2.cell (p := ⟨w1.heap.size, y, none⟩) (by simp) (show w1.heap.size ≠ g by omega)
      have hs2 := hP2.size
      simp at hs2
      have hR2 := (hR.below (bl_a _)).past hP2 (by omega)
      replace hP := (hP.trans (Past.of_below (bl_a _))).trans hP2
      obtain ⟨t, ht, hct⟩ : ∃ t : ByteArray, t.size ≤ 100 ∧ w2.cell? ⟨w1.heap.size, y, none⟩ = some (.string t) := by
        have hyy : y = 0 ∨ y = 1 ∨ y = 2 ∨ y = 3 ∨ y = 4 ∨ y = 5 := by omega
        rcases hyy with rfl | rfl | rfl | rfl | rfl | rfl
        all_goals
          simp [go_sem] at hcl
          exact ⟨_, by decide, hcl⟩
      have HP : Hid (Past g w w2) := hP
      have HC2 : Hid (Cur w2 g a len cap) := hC2
      clear B O hC1 hP2 hR hcl hP hC2
      go_wp2_with fail
      refine (l1name_any t _ ht).mono ?_
      rintro e w3 ⟨⟨k, n, s, ta, tl, tc, bs, rfl, hn, hsc, htl, hT⟩, hb3⟩
      have hR3 := hR2.below hb3
      have HP3 : Hid (Past g w w3) := HP.out.trans (Past.of_below hb3)
      have HC3 : Hid (Cur w3 g a len cap) := HC2.out.below hb3
      have HT : Hid (Tx w3 w2.heap.size ta tl tc bs) := hT
      obtain ⟨⟨o0, o1, o2, o3, o4⟩, f0, f1, f2, f3⟩ := id hR3
      clear hR2 hR3 hT hb3 HP HC2 hct
      go_wp2
      refine bodyPost_ret (v := .agg #[.int .i64 k, .slice ta tl tc, .int .i64 n, .int .i64 s]) (by simp [results, Tryz.results57, go_sem, *]) rfl ?_
      exact term_end HC.out HP3.out HC3.out HT.out (by omega) (Nat.le_refl _) (by omega) hn hsc htl
    · go_wp2_with fail
      refine (B _ 6 (hC1.below (bl_a _)) (by omega) (by omega)).mono ?_
      rintro e w2 ⟨y, rfl, hy, hP2, hC2⟩
      have hcl := hP2.cell (p := ⟨w1.heap.size, y, none⟩) (by simp) (show w1.heap.size ≠ g by omega)
      have hs2 := hP2.size
      simp at hs2
      have hR2 := (hR.below (bl_a _)).past hP2 (by omega)
      replace hP := (hP.trans (Past.of_below (bl_a _))).trans hP2
      obtain ⟨t, ht, hct⟩ : ∃ t : ByteArray, t.size ≤ 100 ∧ w2.cell? ⟨w1.heap.size, y, none⟩ = some (.string t) := by
        have hyy : y = 0 ∨ y = 1 ∨ y = 2 ∨ y = 3 ∨ y = 4 ∨ y = 5 := by omega
        rcases hyy with rfl | rfl | rfl | rfl | rfl | rfl
        all_goals
          simp [go_sem] at hcl
          exact ⟨_, by decide, hcl⟩
      have HP : Hid (Past g w w2) := hP
      have HC2 : Hid (Cur w2 g a len cap) := hC2
      clear B O hC1 hP2 hR hcl hP hC2
      go_wp2_with fail
      refine (l1name_any t _ ht).mono ?_
      rintro e w3 ⟨⟨k, n, s, ta, tl, tc, bs, rfl, hn, hsc, htl, hT⟩, hb3⟩
      have hR3 := hR2.below hb3
      have HP3 : Hid (Past g w w3) := HP.out.trans (Past.of_below hb3)
      have HC3 : Hid (Cur w3 g a len cap) := HC2.out.below hb3
      have HT : Hid (Tx w3 w2.heap.size ta tl tc bs) := hT
      obtain ⟨⟨o0, o1, o2, o3, o4⟩, f0, f1, f2, f3⟩ := id hR3
      clear hR2 hR3 hT hb3 HP HC2 hct
      go_wp2
      refine bodyPost_ret (v := .agg #[.int .i64 k, .slice ta tl tc, .int .i64 n, .int .i64 s]) (by simp [results, Tryz.results57, go_sem, *]) rfl ?_
      exact term_end HC.out HP3.out HC3.out HT.out (by omega) (Nat.le_refl _) (by omega) hn hsc htl
  by_cases hx4 : x = 3
  · subst hx4
    go_wp2_with fail
    refine (B _ 6 (hC1.below (bl_a _)) (by omega) (by omega)).mono ?_
    rintro e w2 ⟨y, rfl, hy, hP2, hC2⟩
    have hcl := hP2.cell (p := ⟨w1.heap.size, y, none⟩) (by simp) (show w1.heap.size ≠ g by omega)
    have hs2 := hP2.size
    simp at hs2
    have hR2 := (hR.below (bl_a _)).past hP2 (by omega)
    replace hP := (hP.trans (Past.of_below (bl_a _))).trans hP2
    obtain ⟨t, ht, hct⟩ : ∃ t : ByteArray, t.size ≤ 100 ∧ w2.cell? ⟨w1.heap.size, y, none⟩ = some (.string t) := by
      have hyy : y = 0 ∨ y = 1 ∨ y = 2 ∨ y = 3 ∨ y = 4 ∨ y = 5 := by omega
      rcases hyy with rfl | rfl | rfl | rfl | rfl | rfl
      all_goals
        simp [go_sem] at hcl
        exact ⟨_, by decide, hcl⟩
    have HP : Hid (Past g w w2) := hP
    have HC2 : Hid (Cur w2 g a len cap) := hC2
    clear B O hC1 hP2 hR hcl hP hC2
    have hcv := fun w => Lib.run_convert_string_bytes (P := Tryz.prog) w 9 22 5 t Tryz.underlying9 Tryz.underlying22 Tryz.underlying5
    have hb3 := bytesWorld_below w2 5 t
    have hR3 := hR2.below hb3
    have HP3 : Hid (Past g w (Lib.bytesWorld w2 5 t)) := HP.out.trans (Past.of_below hb3)
    have HC3 : Hid (Cur (Lib.bytesWorld w2 5 t) g a len cap) := HC2.out.below hb3
    have HT : Hid (Tx (Lib.bytesWorld w2 5 t) w2.heap.size (some ⟨w2.heap.size, 0, none⟩) t.size (grownCap w2 t.size 0 5) (numsOf t)) := Tx.conv w2 t 5 (by omega)
    obtain ⟨⟨o0, o1, o2, o3, o4⟩, f0, f1, f2, f3⟩ := id hR3
    clear hR2 hR3 hb3 HP HC2
    go_wp2
    refine bodyPost_ret (v := .agg #[.int .i64 2, .slice (some ⟨w2.heap.size, 0, none⟩) t.size (grownCap w2 t.size 0 5), .int .i64 0, .int .i64 0]) (by simp [results, Tryz.results57, go_sem, *]) rfl ?_
    exact term_end HC.out HP3.out HC3.out HT.out (by omega) (Nat.le_refl _) (by omega) (by omega) (by omega) ht
  have PI := fun w (lb n : Nat) (L : Nat → Int) (h : Cur w g a len cap) h1 h2 h3 h4 h5 => l1PickInt_any g lb a len cap n L w hlen h h1 h2 h3 h4 h5
  have hxx : x = 4 ∨ x = 5 := by omega
  have e0 : ((x : Int) == 0) = false := by simp; omega
  have e1 : ((x : Int) == 1) = false := by simp; omega
  have e2 : ((x : Int) == 2) = false := by simp; omega
  have e3 : ((x : Int) == 3) = false := by simp; omega
  go_wp2_with fail
  refine (O _ 3 hC1 (by omega) (by omega)).mono ?_
  rintro e w2 ⟨p, rfl, hP2, hC2⟩
  have hR2 := hR.past hP2 (by omega)
  have hs2 := hP2.size
  have HP2 : Hid (Past g w w2) := hP.trans hP2
  clear hC1 hR hP hP2 hxx
  cases p
  · have hRq := hR2
    have HPq := HP2
    have HCq : Hid (Cur w2 g a len cap) := hC2
    clear hR2 HP2 hC2 PI
    go_wp2_with fail
    refine (B _ 7 HCq.out (by omega) (by omega)).mono ?_
    rintro e w5 ⟨z, rfl, hz, hP5, hC5⟩
    have hR5 := hRq.past hP5 (by omega)
    have hs5 := hP5.size
    have HP5 : Hid (Past g w w5) := HPq.out.trans hP5
    have HC5 : Hid (Cur w5 g a len cap) := hC5
    clear B O hP5 hC5 hRq HPq HCq
    go_wp2_with fail
    refine (l1int_d ((z : Int) - 2) _ (by omega)).mono ?_
    rintro e w6 ⟨⟨k, n, s, ta, tl, tc, bs, rfl, hn, hsc, htl, hT⟩, hb6⟩
    have hR6 := hR5.below hb6
    have HP6 : Hid (Past g w w6) := HP5.out.trans (Past.of_below hb6)
    have HC6 : Hid (Cur w6 g a len cap) := HC5.out.below hb6
    have HT : Hid (Tx w6 w5.heap.size ta tl tc bs) := hT
    obtain ⟨⟨o0, o1, o2, o3, o4⟩, f0, f1, f2, f3⟩ := id hR6
    clear hR5 hR6 hT hb6 HP5 HC5
    go_wp2
    refine bodyPost_ret (v := .agg #[.int .i64 k, .slice ta tl tc, .int .i64 n, .int .i64 s]) (by simp [results, Tryz.results57, go_sem, *]) rfl ?_
    exact term_end HC.out HP6.out HC6.out HT.out (by omega) (Nat.le_refl _) (by omega) hn hsc htl
  · go_wp2_with fail
    refine (PI _ w2.heap.size 7 (fun i => if i = 0 then 15 else if i = 1 then -25 else if i = 2 then 1 else if i = 3 then 1000000000000000 else if i = 4 then -1000000000000000 else if i = 5 then 999999 else 123456789012) (hC2.below (bl_a _)) (by omega) (by omega) (by simp) (by omega) (by
      intro i hi
      have hii : i = 0 ∨ i = 1 ∨ i = 2 ∨ i = 3 ∨ i = 4 ∨ i = 5 ∨ i = 6 := by omega
      rcases hii with rfl | rfl | rfl | rfl | rfl | rfl | rfl
      all_goals simp [go_sem])).mono ?_
    rintro e w3 ⟨j, hj, rfl, hP3, hC3⟩
    obtain ⟨q, hq, hq1, hq2⟩ : ∃ q : Int, q = (if j = 0 then 15 else if j = 1 then -25 else if j = 2 then 1 else if j = 3 then 1000000000000000 else if j = 4 then -1000000000000000 else if j = 5 then 999999 else 123456789012) ∧ -1000000000000000 ≤ q ∧ q ≤ 1000000000000000 := by
      refine ⟨_, rfl, ?_⟩
      have hii : j = 0 ∨ j = 1 ∨ j = 2 ∨ j = 3 ∨ j = 4 ∨ j = 5 ∨ j = 6 := by omega
      rcases hii with rfl | rfl | rfl | rfl | rfl | rfl | rfl
      all_goals decide
    rw [← hq]
    clear hq hj
    have hR3 := (hR2.below (bl_a _)).past hP3 (by omega)
    have hs3 := hP3.size
    simp at hs3
    have HP3 : Hid (Past g w w3) := (HP2.out.trans (Past.of_below (bl_a _))).trans hP3
    clear hP3 hR2 HP2 hC2
    go_wp2_with fail
    refine (B _ 7 hC3 (by omega) (by omega)).mono ?_
    rintro e w4 ⟨z, rfl, hz, hP4, hC4⟩
    have hR4 := hR3.past hP4 (by omega)
    have hs4 := hP4.size
    have HP4 : Hid (Past g w w4) := HP3.out.trans hP4
    clear hP4 hR3 HP3 hC3
    go_wp2_with fail
    refine (specNum_any q z _ (by omega) (by omega)).mono ?_
    rintro e w5 ⟨rfl, hb5⟩
    have hbq := numP_bounds q z
    have hb6 := numP_b6 q z
    generalize tK (numP q z) = u1 at *
    generalize tN (numP q z) = u2 at *
    generalize tS (numP q z) = u3 at *
    generalize numOk (numP q z).1 (numP q z).2 = u4 at *
    have hRq := (hR4.below hb5).below (bl_a (.cells #[.int .i64 u1, .slice none 0 0, .int .i64 u2, .int .i64 u3] 24))
    have HPq : Hid (Past g w (w5.alloc (.cells #[.int .i64 u1, .slice none 0 0, .int .i64 u2, .int .i64 u3] 24))) := (HP4.out.trans (Past.of_below hb5)).trans (Past.of_below (bl_a _))
    have HCq : Hid (Cur (w5.alloc (.cells #[.int .i64 u1, .slice none 0 0, .int .i64 u2, .int .i64 u3] 24)) g a len cap) := (hC4.below hb5).below (bl_a _)
    have hZ := At4.new w5 (.int .i64 u1) (.slice none 0 0) (.int .i64 u2) (.int .i64 u3) 24
    have hsq : w.heap.size < (w5.alloc (.cells #[.int .i64 u1, .slice none 0 0, .int .i64 u2, .int .i64 u3] 24)).heap.size := by
      have := hb5.size
      simp
      omega
    clear hb5 hR4 HP4 hC4
    by_cases hu : u1 = 3
    · subst hu
      obtain ⟨⟨o0, o1, o2, o3, o4⟩, f0, f1, f2, f3⟩ := id hRq
      clear hRq B O
      go_wp2
      refine bodyPost_ret (v := .agg #[.int .i64 3, .slice none 0 0, .int .i64 u2, .int .i64 u3]) (by simp [results, Tryz.results57, go_sem, *]) rfl ?_
      exact term_end HC.out HPq.out HCq.out (Tx.nil _ (w.heap.size + 1)) (by omega) (Nat.le_refl _) (by omega) hbq.1 hb6 (by omega)
    · have hu' : (u1 == 3) = false := by simp [hu]
      clear hu hZ
      clear PI
      go_wp2_with fail
      refine (B _ 7 HCq.out (by omega) (by omega)).mono ?_
      rintro e w5 ⟨z, rfl, hz, hP5, hC5⟩
      have hR5 := hRq.past hP5 (by omega)
      have hs5 := hP5.size
      have HP5 : Hid (Past g w w5) := HPq.out.trans hP5
      have HC5 : Hid (Cur w5 g a len cap) := hC5
      clear B O hP5 hC5 hRq HPq HCq
      go_wp2_with fail
      refine (l1int_d ((z : Int) - 2) _ (by omega)).mono ?_
      rintro e w6 ⟨⟨k, n, s, ta, tl, tc, bs, rfl, hn, hsc, htl, hT⟩, hb6⟩
      have hR6 := hR5.below hb6
      have HP6 : Hid (Past g w w6) := HP5.out.trans (Past.of_below hb6)
      have HC6 : Hid (Cur w6 g a len cap) := HC5.out.below hb6
      have HT : Hid (Tx w6 w5.heap.size ta tl tc bs) := hT
      obtain ⟨⟨o0, o1, o2, o3, o4⟩, f0, f1, f2, f3⟩ := id hR6
      clear hR5 hR6 hT hb6 HP5 HC5
      go_wp2
      refine bodyPost_ret (v := .agg #[.int .i64 k, .slice ta tl tc, .int .i64 n, .int .i64 s]) (by simp [results, Tryz.results57, go_sem, *]) rfl ?_
      exact term_end HC.out HP6.out HC6.out HT.out (by omega) (Nat.le_refl _) (by omega) hn hsc htl
end Go.Proofs.YtoclingolfdfeaaGreatDoor
