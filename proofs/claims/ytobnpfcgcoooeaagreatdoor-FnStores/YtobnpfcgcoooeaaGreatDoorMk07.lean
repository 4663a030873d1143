/- Texts put together: CmpF GraF StrE StrF -/
import Derived.Test.YtobnpfcgcoooeaaGreatDoorMk06
import Derived.Test.YtobnpfcgcoooeaaGreatDoorMk05
import Derived.Test.YtobnpfcgcoooeaaGreatDoorMk03
import Derived.Deep.RegionHeld3
/- CmpF -/
namespace Go.Proofs.YtobnpfcgcoooeaaGreatDoor
open Go.RowKit Go.Deep

theorem sideI_str (bs bs' : List Int) : sideI (Op.bytesLess (strOfNums bs).toList (strOfNums bs').toList) (!Op.bytesLess (strOfNums bs).toList (strOfNums bs').toList && !((strOfNums bs).toList == (strOfNums bs').toList)) = cmpB bs bs' := by
  unfold cmpB
  rw [less_cmp, Lib.strOfNums_toList, Lib.strOfNums_toList]
  rfl

theorem termOk_blank {n s : Int} {bs : List Int} (h : termOk 1 bs n s = true) : bs = [] ∧ s = 0 := by
  simp [termOk] at h
  exact ⟨h.1.1.1, h.2⟩
theorem termOk_num {n s : Int} {bs : List Int} (h : termOk 3 bs n s = true) : bs = [] := by
  simp [termOk] at h
  exact h.1
theorem termOk_str {k n s : Int} {bs : List Int} (h : termOk k bs n s = true) (h1 : k ≠ 1) (h3 : k ≠ 3) : n = 0 ∧ s = 0 := by
  by_cases k0 : k = 0
  · subst k0
    simp [termOk] at h
    exact ⟨h.1.2, h.2⟩
  by_cases k2 : k = 2
  · subst k2
    simp [termOk] at h
    exact ⟨h.1.2, h.2⟩
  · simp [termOk, k0, h1, k2, h3] at h
theorem cmpI_ne {x y : Int} (h : x ≠ y) : cmpI x y ≠ 0 := by
  unfold cmpI
  split
  · decide
  · split
    · decide
    · omega

set_option maxHeartbeats 1000000 in
theorem l1compare_any (k n k' n' : Int) (s s' : Nat) (a a' : Option Addr) (len cap len' cap' : Nat) (bs bs' : List Int) (w : World) (hB : Bs w a len bs) (hB' : Bs w a' len' bs')
    (hs : s ≤ 6) (h1 : -9223372036854775808 ≤ n) (h2 : n ≤ 9223372036854775807) (hs' : s' ≤ 6) (h1' : -9223372036854775808 ≤ n') (h2' : n' ≤ 9223372036854775807) (e1 : termOk k bs n s = true) (e2 : termOk k' bs' n' s' = true) :
    Calls Tryz.prog 28 #[.agg #[.int .i64 k, .slice a len cap, .int .i64 n, .int .i64 s], .agg #[.int .i64 k', .slice a' len' cap', .int .i64 n', .int .i64 s']] w fun e w' =>
      e = .returned (.int .i64 (cmp3 (cmpI k k') (cmpB bs bs') (cmpN n s n' s'))) ∧ Below w.heap.size w w' := by
  by_cases hk : k = k'
  · subst hk
    have c0 : cmpI k k = 0 := cmpI_eq rfl
    by_cases k1 : k = 1
    · subst k1
      obtain ⟨rfl, g1⟩ := termOk_blank e1
      obtain ⟨rfl, g2⟩ := termOk_blank e2
      obtain rfl : s = 0 := by omega
      obtain rfl : s' = 0 := by omega
      have ec : Hid (cmp3 (cmpI 1 1) (cmpB [] []) (cmpN n (0 : Nat) n' (0 : Nat)) = cmpI n n') := by
        show _ = _
        rw [c0, cmpB_nil, cmpN_blank]
        rfl
      clear c0 e1 e2 hB hB' g1 g2
      go_enter Tryz.func28, Tryz.ntmps28
      go_wp2_with fail
      refine (side_any _ _ _).mono ?_
      rintro e w1 ⟨rfl, rfl⟩
      go_wp2
      go_ret
      refine ⟨?_, bl_alloc (bl_a _) _⟩
      rw [ec.out, ← sideI_lt]
      rfl
    by_cases k3 : k = 3
    · subst k3
      obtain rfl := termOk_num e1
      obtain rfl := termOk_num e2
      have ec : Hid (cmp3 (cmpI 3 3) (cmpB [] []) (cmpN n s n' s') = cmpN n s n' s') := by
        show _ = _
        rw [c0, cmpB_nil]
        rfl
      clear c0 e1 e2 hB hB'
      go_enter Tryz.func28, Tryz.ntmps28
      go_wp2_with fail
      refine (l1compareNum_any 3 n 3 n' s s' a a' len cap len' cap' _ hs h1 h2 hs' h1' h2').mono ?_
      rintro e w1 ⟨rfl, hb1⟩
      go_wp2
      go_ret
      exact ⟨by rw [ec.out]; rfl, bl_trans (bl_alloc (bl_a _) _) hb1⟩
    · obtain ⟨rfl, g1⟩ := termOk_str e1 k1 k3
      obtain ⟨rfl, g2⟩ := termOk_str e2 k1 k3
      obtain rfl : s = 0 := by omega
      obtain rfl : s' = 0 := by omega
      have ec : Hid (cmp3 (cmpI k k) (cmpB bs bs') (cmpN 0 (0 : Nat) 0 (0 : Nat)) = cmpB bs bs') := by
        show _ = _
        rw [c0, cmpN_blank, cmpI_eq rfl]
        unfold cmp3 orI
        simp
        intro h; exact h.symm
      have v1 : ∀ o1 o2, (convert 22 9 (.slice a len cap)).run Tryz.prog ((w.alloc o1).alloc o2) = .ok (.string (strOfNums bs)) ((w.alloc o1).alloc o2) := fun o1 o2 => (hB.below (bl_alloc (bl_a _) _)).str
      have v2 : ∀ o1 o2, (convert 22 9 (.slice a' len' cap')).run Tryz.prog ((w.alloc o1).alloc o2) = .ok (.string (strOfNums bs')) ((w.alloc o1).alloc o2) := fun o1 o2 => (hB'.below (bl_alloc (bl_a _) _)).str
      have g1' : (k == 1) = false := by simp; omega
      have g3' : (k == 3) = false := by simp; omega
      clear c0 e1 e2 hB hB' g1 g2 k1 k3
      go_enter Tryz.func28, Tryz.ntmps28
      go_wp2_with fail
      refine (side_any _ _ _).mono ?_
      rintro e w1 ⟨rfl, rfl⟩
      go_wp2
      go_ret
      refine ⟨?_, bl_alloc (bl_a _) _⟩
      rw [ec.out, ← sideI_str]
      rfl
  · have ec : Hid (cmp3 (cmpI k k') (cmpB bs bs') (cmpN n s n' s') = cmpI k k') := by
      show orI _ _ = _
      rw [orI, if_neg (cmpI_ne hk)]
    have HK : Hid (k ≠ k') := hk
    have hk' : (k != k') = true := by simp [hk]
    clear hk e1 e2 hB hB'
    go_enter Tryz.func28, Tryz.ntmps28
    go_wp2_with fail
    refine (side_any _ _ _).mono ?_
    rintro e w1 ⟨rfl, rfl⟩
    go_wp2
    go_ret
    refine ⟨?_, bl_alloc (bl_a _) _⟩
    rw [ec.out, ← sideI_ne _ _ HK.out]
    rfl

set_option maxHeartbeats 2000000 in
theorem specCompare_oo (k n s k' n' s' : Int) (a a' : Option Addr) (len cap len' cap' : Nat) (bs bs' : List Int) (w : World)
    (hB : Bs w a len bs) (hB' : Bs w a' len' bs') (h1 : -9223372036854775808 ≤ n) (h2 : n ≤ 9223372036854775807) (h1' : -9223372036854775808 ≤ n') (h2' : n' ≤ 9223372036854775807) (e1 : termOk k bs n s = true) (e2 : termOk k' bs' n' s' = true) :
    Calls Tryz.prog 8 #[.agg #[.int .i64 k, .slice a len cap, .int .i64 n, .int .i64 s], .agg #[.int .i64 k', .slice a' len' cap', .int .i64 n', .int .i64 s']] w fun e w' =>
      e = .returned (.int .i64 (cmpT (termOk k bs n s) (termOk k' bs' n' s') (cmp3 (cmpI k k') (cmpB bs bs') (cmpN n s.toNat n' s'.toNat)))) ∧ Below w.heap.size w w' := by
  have ok1 := fun w hB => specTermOk_any k n s a len cap bs w hB h1 h2
  have ok2 := fun w hB => specTermOk_any k' n' s' a' len' cap' bs' w hB h1' h2'
  obtain ⟨b1, b2⟩ := termOk_scale e1
  obtain ⟨b1', b2'⟩ := termOk_scale e2
  obtain ⟨t, rfl⟩ : ∃ t : Nat, s = t := ⟨s.toNat, by omega⟩
  obtain ⟨t', rfl⟩ : ∃ t : Nat, s' = t := ⟨s'.toNat, by omega⟩
  have ec : Hid (cmpT (termOk k bs n t) (termOk k' bs' n' t') (cmp3 (cmpI k k') (cmpB bs bs') (cmpN n (t : Int).toNat n' (t' : Int).toNat)) = cmp3 (cmpI k k') (cmpB bs bs') (cmpN n t n' t')) := by
    show _ = _
    simp [cmpT, e1, e2]
  go_enter Tryz.func8, Tryz.ntmps8
  go_wp2_with fail
  refine (ok1 _ (hB.below (bl_alloc (bl_a _) _))).mono ?_
  rintro e w1 ⟨rfl, o1, rfl⟩
  go_wp2_with fail
  refine (ok2 _ (hB'.below (bl_alloc (bl_alloc (bl_a _) _) _))).mono ?_
  rintro e w2 ⟨rfl, o2, rfl⟩
  go_wp2_with fail
  refine (l1compare_any k n k' n' t t' a a' len cap len' cap' bs bs' _ (hB.below (bl_alloc (bl_alloc (bl_alloc (bl_a _) _) _) _)) (hB'.below (bl_alloc (bl_alloc (bl_alloc (bl_a _) _) _) _)) (by omega) h1 h2 (by omega) h1' h2' e1 e2).mono ?_
  rintro e w3 ⟨rfl, hb3⟩
  go_wp2
  go_ret
  exact ⟨by rw [ec.out]; rfl, bl_trans (bl_alloc (bl_alloc (bl_alloc (bl_a _) _) _) _) hb3⟩
end Go.Proofs.YtobnpfcgcoooeaaGreatDoor

/- GraF -/
namespace Go.Proofs.YtobnpfcgcoooeaaGreatDoor
open Go.RowKit Go.Deep

/-- One operation of a region that draws its order, taken first; its slot is d. -/
theorem take_at {P : Program} {md : Region.Mode} {ops : Array Oper} {Q : Exit → Act → World → Prop} {S : World → Prop} {i : Nat} {oi : Oper} {v : Value} {fuel : Nat} {listed : Array Bool} {a : Act} {w : World} (d : Nat) (hi : ops[i]? = some oi) (hd : oi.dst = some d)
    (hs : Region.noSelect ops = true) (hf : Region.free md ops listed i = true) (hr : (Region.ready md ops listed).contains i = true)
    (hQ : ∀ c a w, Q (.panic c) (a.put (some d) v) w → Q (.panic c) a w) (hy : YieldsIf P ops S oi v a) (hS : S w)
    (h : wpAnyH P md ops Q S fuel (listed.setIfInBounds i true) (a.put (some d) v) w) : wpAnyH P md ops Q S (fuel + 1) listed a w :=
  wpAnyH_take hi hs hf hr (by rw [hd]; exact hQ) hy hS (by rw [hd]; exact h)

theorem cmpOr3_any (x y z : Int) (b : Nat) (w : World) (h0 : w.cell? ⟨b, 0, none⟩ = some (.int .i64 x)) (h1 : w.cell? ⟨b, 1, none⟩ = some (.int .i64 y)) (h2 : w.cell? ⟨b, 2, none⟩ = some (.int .i64 z)) :
    Calls Tryz.prog 71 #[.slice (some ⟨b, 0, none⟩) 3 3] w fun e w' => e = .returned (.int .i64 (cmp3 x y z)) ∧ w' = w := by
  by_cases hx : x = 0
  · subst hx
    by_cases hy : y = 0
    · subst hy
      by_cases hz : z = 0
      · subst hz
        have e0 : cmp3 0 0 0 = 0 := rfl
        rw [e0]
        go_enter Tryz.func71, Tryz.ntmps71
        go_wp2
        refine wp_loop_rounds 4 ?_
        rw [rounds_succ]
        go_wp2
        rw [rounds_succ]
        go_wp2
        rw [rounds_succ]
        go_wp2
        rw [rounds_succ]
        go_wp2
        go_ret
        exact ⟨rfl, rfl⟩
      · have hz' : (z != 0) = true := by simp; omega
        have e0 : cmp3 0 0 z = z := rfl
        rw [e0]
        clear hz
        go_enter Tryz.func71, Tryz.ntmps71
        go_wp2
        refine wp_loop_rounds 3 ?_
        rw [rounds_succ]
        go_wp2
        rw [rounds_succ]
        go_wp2
        rw [rounds_succ]
        go_wp2
        go_ret
        exact ⟨rfl, rfl⟩
    · have hy' : (y != 0) = true := by simp; omega
      have e0 : cmp3 0 y z = y := by unfold cmp3 orI; simp [hy]
      rw [e0]
      clear hy
      go_enter Tryz.func71, Tryz.ntmps71
      go_wp2
      refine wp_loop_rounds 2 ?_
      rw [rounds_succ]
      go_wp2
      rw [rounds_succ]
      go_wp2
      go_ret
      exact ⟨rfl, rfl⟩
  · have hx' : (x != 0) = true := by simp; omega
    have e0 : cmp3 x y z = x := by unfold cmp3 orI; simp [hx]
    rw [e0]
    clear hx
    go_enter Tryz.func71, Tryz.ntmps71
    go_wp2
    refine wp_loop_rounds 1 ?_
    rw [rounds_succ]
    go_wp2
    go_ret
    exact ⟨rfl, rfl⟩

/-- Two terms that may be, compared. -/
def tcmp (t t' : Tm) (b b' : List Int) : Int := cmp3 (cmpI t.k t'.k) (cmpB b b') (cmpN t.n t.s.toNat t'.n t'.s.toNat)
/-- Two triples that may be. -/
def tcmp3 (t u v t' u' v' : Tm) (bt bu bv bt' bu' bv' : List Int) : Int := cmp3 (tcmp t t' bt bt') (tcmp u u' bu bu') (tcmp v v' bv bv')
theorem tripleOk_out {t u v : Tm} {bt bu bv : List Int} (h : tripleOk t u v bt bu bv = true) : termOk t.k bt t.n t.s = true ∧ termOk u.k bu u.n u.s = true ∧ termOk v.k bv v.n v.s = true := by
  unfold tripleOk at h
  simp only [Bool.and_eq_true] at h
  exact ⟨h.1.1.1.1, h.1.1.1.2, h.1.1.2⟩

theorem l1compare_tm (t t' : Tm) (b b' : List Int) (w : World) (f : t.fits) (f' : t'.fits) (o : termOk t.k b t.n t.s = true) (o' : termOk t'.k b' t'.n t'.s = true) (h : Bs w t.a t.len b) (h' : Bs w t'.a t'.len b') :
    Calls Tryz.prog 28 #[.agg #[.int .i64 t.k, .slice t.a t.len t.cap, .int .i64 t.n, .int .i64 t.s], .agg #[.int .i64 t'.k, .slice t'.a t'.len t'.cap, .int .i64 t'.n, .int .i64 t'.s]] w fun e w' => e = .returned (.int .i64 (tcmp t t' b b')) ∧ Below w.heap.size w w' := by
  have s1 := termOk_scale o
  have s2 := termOk_scale o'
  unfold tcmp
  obtain ⟨m, hm⟩ : ∃ m : Nat, t.s = m := ⟨t.s.toNat, by omega⟩
  obtain ⟨m', hm'⟩ : ∃ m : Nat, t'.s = m := ⟨t'.s.toNat, by omega⟩
  have := l1compare_any t.k t.n t'.k t'.n m m' t.a t'.a t.len t.cap t'.len t'.cap b b' w h h' (by omega) f.1 f.2.1 (by omega) f'.1 f'.2.1 (by rw [← hm]; exact o) (by rw [← hm']; exact o')
  rw [hm, hm']
  simpa using this
theorem implCompare_tm (t t' : Tm) (b b' : List Int) (w : World) (f : t.fits) (f' : t'.fits) (o : termOk t.k b t.n t.s = true) (o' : termOk t'.k b' t'.n t'.s = true) (h : Bs w t.a t.len b) (h' : Bs w t'.a t'.len b') :
    Calls Tryz.prog 42 #[.agg #[.int .i64 t.k, .slice t.a t.len t.cap, .int .i64 t.n, .int .i64 t.s], .agg #[.int .i64 t'.k, .slice t'.a t'.len t'.cap, .int .i64 t'.n, .int .i64 t'.s]] w fun e w' => e = .returned (.int .i64 (tcmp t t' b b')) ∧ Below w.heap.size w w' := by
  have := implCompare_any t.k t.n t.s t'.k t'.n t'.s t.a t'.a t.len t.cap t'.len t'.cap b b' w h h' f.1 f.2.1 f.2.2.1 f.2.2.2 f'.1 f'.2.1 f'.2.2.1 f'.2.2.2
  rw [o, o'] at this
  exact this

theorem l2compare_any (t u v t' u' v' : Tm) (bt bu bv bt' bu' bv' : List Int) (w : World) (ft : t.fits) (fu : u.fits) (fv : v.fits) (ft' : t'.fits) (fu' : u'.fits) (fv' : v'.fits)
    (o : tripleOk t u v bt bu bv = true) (o' : tripleOk t' u' v' bt' bu' bv' = true) (hT : Bs w t.a t.len bt) (hU : Bs w u.a u.len bu) (hV : Bs w v.a v.len bv) (hT' : Bs w t'.a t'.len bt') (hU' : Bs w u'.a u'.len bu') (hV' : Bs w v'.a v'.len bv') :
    Calls Tryz.prog 20 #[.agg #[.int .i64 t.k, .slice t.a t.len t.cap, .int .i64 t.n, .int .i64 t.s, .int .i64 u.k, .slice u.a u.len u.cap, .int .i64 u.n, .int .i64 u.s, .int .i64 v.k, .slice v.a v.len v.cap, .int .i64 v.n, .int .i64 v.s], .agg #[.int .i64 t'.k, .slice t'.a t'.len t'.cap, .int .i64 t'.n, .int .i64 t'.s, .int .i64 u'.k, .slice u'.a u'.len u'.cap, .int .i64 u'.n, .int .i64 u'.s, .int .i64 v'.k, .slice v'.a v'.len v'.cap, .int .i64 v'.n, .int .i64 v'.s]] w fun e w' => e = .returned (.int .i64 (tcmp3 t u v t' u' v' bt bu bv bt' bu' bv')) ∧ Below w.heap.size w w' := by
  obtain ⟨o1, o2, o3⟩ := tripleOk_out o
  obtain ⟨o1', o2', o3'⟩ := tripleOk_out o'
  have C1 := fun w h h' => l1compare_tm t t' bt bt' w ft ft' o1 o1' h h'
  have C2 := fun w h h' => l1compare_tm u u' bu bu' w fu fu' o2 o2' h h'
  have C3 := fun w h h' => l1compare_tm v v' bv bv' w fv fv' o3 o3' h h'
  clear o o' o1 o2 o3 o1' o2' o3' ft fu fv ft' fu' fv'
  unfold tcmp3
  generalize tcmp t t' bt bt' = c1 at *
  generalize tcmp u u' bu bu' = c2 at *
  generalize tcmp v v' bv bv' = c3 at *
  by_cases e1 : c1 = 0
  · subst e1
    by_cases e2 : c2 = 0
    · subst e2
      have e0 : cmp3 0 0 c3 = c3 := rfl
      rw [e0]
      go_enter Tryz.func20, Tryz.ntmps20
      go_wp2_with fail
      refine (C1 _ (hT.below (bl_alloc (bl_a _) _)) (hT'.below (bl_alloc (bl_a _) _))).mono ?_
      rintro e w1 ⟨rfl, hb1⟩
      have hA := (Own12.at w w.heap.size t u v 41 rfl).1.below (bl_trans (bl_a _) hb1)
      have hX := (Own12.at (w.alloc _) (w.heap.size + 1) t' u' v' 41 (by simp)).1.below hb1
      have hw := bl_trans (bl_alloc (bl_a _) _) hb1
      clear hb1
      obtain ⟨_, ⟨x0, x1, x2, x3⟩, ⟨x4, x5, x6, x7⟩, ⟨x8, x9, xa, xb⟩⟩ := id hA
      obtain ⟨_, ⟨y0, y1, y2, y3⟩, ⟨y4, y5, y6, y7⟩, ⟨y8, y9, ya, yb⟩⟩ := id hX
      go_wp2_with fail
      refine (C2 _ (hU.below hw) (hU'.below hw)).mono ?_
      rintro e w2 ⟨rfl, hb2⟩
      replace hA := hA.below hb2
      replace hX := hX.below hb2
      replace hw := bl_trans hw hb2
      clear hb2
      clear x0 x1 x2 x3 x4 x5 x6 x7 x8 x9 xa xb
      clear y0 y1 y2 y3 y4 y5 y6 y7 y8 y9 ya yb
      obtain ⟨_, ⟨x0, x1, x2, x3⟩, ⟨x4, x5, x6, x7⟩, ⟨x8, x9, xa, xb⟩⟩ := id hA
      obtain ⟨_, ⟨y0, y1, y2, y3⟩, ⟨y4, y5, y6, y7⟩, ⟨y8, y9, ya, yb⟩⟩ := id hX
      go_wp2_with fail
      refine (C3 _ (hV.below hw) (hV'.below hw)).mono ?_
      rintro e w3 ⟨rfl, hb3⟩
      replace hw := bl_trans hw hb3
      go_wp2
      go_ret
      exact ⟨rfl, hw⟩
    · have e0 : cmp3 0 c2 c3 = c2 := by unfold cmp3 orI; simp [e2]
      have e2' : (c2 == 0) = false := by simp [e2]
      rw [e0]
      clear e2
      go_enter Tryz.func20, Tryz.ntmps20
      go_wp2_with fail
      refine (C1 _ (hT.below (bl_alloc (bl_a _) _)) (hT'.below (bl_alloc (bl_a _) _))).mono ?_
      rintro e w1 ⟨rfl, hb1⟩
      have hA := (Own12.at w w.heap.size t u v 41 rfl).1.below (bl_trans (bl_a _) hb1)
      have hX := (Own12.at (w.alloc _) (w.heap.size + 1) t' u' v' 41 (by simp)).1.below hb1
      have hw := bl_trans (bl_alloc (bl_a _) _) hb1
      clear hb1
      obtain ⟨_, ⟨x0, x1, x2, x3⟩, ⟨x4, x5, x6, x7⟩, ⟨x8, x9, xa, xb⟩⟩ := id hA
      obtain ⟨_, ⟨y0, y1, y2, y3⟩, ⟨y4, y5, y6, y7⟩, ⟨y8, y9, ya, yb⟩⟩ := id hX
      go_wp2_with fail
      refine (C2 _ (hU.below hw) (hU'.below hw)).mono ?_
      rintro e w2 ⟨rfl, hb2⟩
      replace hA := hA.below hb2
      replace hX := hX.below hb2
      replace hw := bl_trans hw hb2
      clear hb2
      clear x0 x1 x2 x3 x4 x5 x6 x7 x8 x9 xa xb
      clear y0 y1 y2 y3 y4 y5 y6 y7 y8 y9 ya yb
      obtain ⟨_, ⟨x0, x1, x2, x3⟩, ⟨x4, x5, x6, x7⟩, ⟨x8, x9, xa, xb⟩⟩ := id hA
      obtain ⟨_, ⟨y0, y1, y2, y3⟩, ⟨y4, y5, y6, y7⟩, ⟨y8, y9, ya, yb⟩⟩ := id hX
      go_wp2
      go_ret
      exact ⟨rfl, hw⟩
  · have e0 : cmp3 c1 c2 c3 = c1 := by unfold cmp3 orI; simp [e1]
    have e1' : (c1 == 0) = false := by simp [e1]
    rw [e0]
    clear e1
    go_enter Tryz.func20, Tryz.ntmps20
    go_wp2_with fail
    refine (C1 _ (hT.below (bl_alloc (bl_a _) _)) (hT'.below (bl_alloc (bl_a _) _))).mono ?_
    rintro e w1 ⟨rfl, hb1⟩
    have hA := (Own12.at w w.heap.size t u v 41 rfl).1.below (bl_trans (bl_a _) hb1)
    have hX := (Own12.at (w.alloc _) (w.heap.size + 1) t' u' v' 41 (by simp)).1.below hb1
    have hw := bl_trans (bl_alloc (bl_a _) _) hb1
    clear hb1
    obtain ⟨_, ⟨x0, x1, x2, x3⟩, ⟨x4, x5, x6, x7⟩, ⟨x8, x9, xa, xb⟩⟩ := id hA
    obtain ⟨_, ⟨y0, y1, y2, y3⟩, ⟨y4, y5, y6, y7⟩, ⟨y8, y9, ya, yb⟩⟩ := id hX
    go_wp2
    go_ret
    exact ⟨rfl, hw⟩

theorem bl_drew3 {w : World} : Below w.heap.size w w.drew := Below.drew (Below.refl _ _)

set_option maxRecDepth 20000 in
set_option maxHeartbeats 2000000 in
theorem compareTriples_any (t u v t' u' v' : Tm) (bt bu bv bt' bu' bv' : List Int) (w : World) (ft : t.fits) (fu : u.fits) (fv : v.fits) (ft' : t'.fits) (fu' : u'.fits) (fv' : v'.fits)
    (o : tripleOk t u v bt bu bv = true) (o' : tripleOk t' u' v' bt' bu' bv' = true) (hT : Bs w t.a t.len bt) (hU : Bs w u.a u.len bu) (hV : Bs w v.a v.len bv) (hT' : Bs w t'.a t'.len bt') (hU' : Bs w u'.a u'.len bu') (hV' : Bs w v'.a v'.len bv') :
    Calls Tryz.prog 40 #[.agg #[.int .i64 t.k, .slice t.a t.len t.cap, .int .i64 t.n, .int .i64 t.s, .int .i64 u.k, .slice u.a u.len u.cap, .int .i64 u.n, .int .i64 u.s, .int .i64 v.k, .slice v.a v.len v.cap, .int .i64 v.n, .int .i64 v.s], .agg #[.int .i64 t'.k, .slice t'.a t'.len t'.cap, .int .i64 t'.n, .int .i64 t'.s, .int .i64 u'.k, .slice u'.a u'.len u'.cap, .int .i64 u'.n, .int .i64 u'.s, .int .i64 v'.k, .slice v'.a v'.len v'.cap, .int .i64 v'.n, .int .i64 v'.s]] w fun e w' => e = .returned (.int .i64 (tcmp3 t u v t' u' v' bt bu bv bt' bu' bv')) ∧ Below w.heap.size w w' := by
  obtain ⟨o1, o2, o3⟩ := tripleOk_out o
  obtain ⟨o1', o2', o3'⟩ := tripleOk_out o'
  have C1 := fun w h h' => implCompare_tm t t' bt bt' w ft ft' o1 o1' h h'
  have C2 := fun w h h' => implCompare_tm u u' bu bu' w fu fu' o2 o2' h h'
  have C3 := fun w h h' => implCompare_tm v v' bv bv' w fv fv' o3 o3' h h'
  clear o o' o1 o2 o3 o1' o2' o3' ft fu fv ft' fu' fv'
  unfold tcmp3
  generalize tcmp t t' bt bt' = c1 at *
  generalize tcmp u u' bu bu' = c2 at *
  generalize tcmp v v' bv bv' = c3 at *
  have tok1 : True := trivial
  have tok2 : True := trivial
  have tok3 : True := trivial
  have hA : ∀ T, At12 ((w.alloc (.cells (cells12 t u v) T)).alloc (.cells (cells12 t' u' v') T)) w.heap.size t u v := fun T => (Own12.at w w.heap.size t u v T rfl).1.below (bl_a _)
  have hX : ∀ T, At12 ((w.alloc (.cells (cells12 t u v) T)).alloc (.cells (cells12 t' u' v') T)) (w.heap.size + 1) t' u' v' := fun T => (Own12.at (w.alloc _) (w.heap.size + 1) t' u' v' T (by simp)).1
  replace hA := hA 41
  replace hX := hX 41
  have hw : Below w.heap.size w ((w.alloc (.cells (cells12 t u v) 41)).alloc (.cells (cells12 t' u' v') 41)) := bl_alloc (bl_a _) _
  go_enter Tryz.func40, Tryz.ntmps40
  go_wp2_with fail
  change Code.wp _ _ _ _ ((w.alloc (.cells (cells12 t u v) 41)).alloc (.cells (cells12 t' u' v') 41))
  generalize (w.alloc (.cells (cells12 t u v) 41)).alloc (.cells (cells12 t' u' v') 41) = w0 at *
  obtain ⟨_, ⟨x0, x1, x2, x3⟩, ⟨x4, x5, x6, x7⟩, ⟨x8, x9, xa, xb⟩⟩ := id hA
  obtain ⟨_, ⟨y0, y1, y2, y3⟩, ⟨y4, y5, y6, y7⟩, ⟨y8, y9, ya, yb⟩⟩ := id hX
  go_region_held3 (fun w' => w'.cell? ⟨w.heap.size, 0, none⟩ = some (.int .i64 t.k) ∧ w'.cell? ⟨w.heap.size, 1, none⟩ = some (.slice t.a t.len t.cap) ∧ w'.cell? ⟨w.heap.size, 2, none⟩ = some (.int .i64 t.n) ∧ w'.cell? ⟨w.heap.size, 3, none⟩ = some (.int .i64 t.s) ∧ w'.cell? ⟨w.heap.size, 4, none⟩ = some (.int .i64 u.k) ∧ w'.cell? ⟨w.heap.size, 5, none⟩ = some (.slice u.a u.len u.cap) ∧ w'.cell? ⟨w.heap.size, 6, none⟩ = some (.int .i64 u.n) ∧ w'.cell? ⟨w.heap.size, 7, none⟩ = some (.int .i64 u.s) ∧ w'.cell? ⟨w.heap.size, 8, none⟩ = some (.int .i64 v.k) ∧ w'.cell? ⟨w.heap.size, 9, none⟩ = some (.slice v.a v.len v.cap) ∧ w'.cell? ⟨w.heap.size, 10, none⟩ = some (.int .i64 v.n) ∧ w'.cell? ⟨w.heap.size, 11, none⟩ = some (.int .i64 v.s) ∧ w'.cell? ⟨w.heap.size + 1, 0, none⟩ = some (.int .i64 t'.k) ∧ w'.cell? ⟨w.heap.size + 1, 1, none⟩ = some (.slice t'.a t'.len t'.cap) ∧ w'.cell? ⟨w.heap.size + 1, 2, none⟩ = some (.int .i64 t'.n) ∧ w'.cell? ⟨w.heap.size + 1, 3, none⟩ = some (.int .i64 t'.s) ∧ w'.cell? ⟨w.heap.size + 1, 4, none⟩ = some (.int .i64 u'.k) ∧ w'.cell? ⟨w.heap.size + 1, 5, none⟩ = some (.slice u'.a u'.len u'.cap) ∧ w'.cell? ⟨w.heap.size + 1, 6, none⟩ = some (.int .i64 u'.n) ∧ w'.cell? ⟨w.heap.size + 1, 7, none⟩ = some (.int .i64 u'.s) ∧ w'.cell? ⟨w.heap.size + 1, 8, none⟩ = some (.int .i64 v'.k) ∧ w'.cell? ⟨w.heap.size + 1, 9, none⟩ = some (.slice v'.a v'.len v'.cap) ∧ w'.cell? ⟨w.heap.size + 1, 10, none⟩ = some (.int .i64 v'.n) ∧ w'.cell? ⟨w.heap.size + 1, 11, none⟩ = some (.int .i64 v'.s)) (simp [*, go_sem])
    (first
      | (go_at_call 42; have _t := tok1; refine (C1 _ (hT.below (bl_trans hw bl_drew3)) (hT'.below (bl_trans hw bl_drew3))).mono ?_; rintro e w1 ⟨rfl, hb1⟩; clear tok1; have hb1 := bl_trans bl_drew3 hb1; have hA1 := hA.below hb1; have hX1 := hX.below hb1; have hw1 := bl_trans hw hb1; obtain ⟨_, ⟨x0, x1, x2, x3⟩, ⟨x4, x5, x6, x7⟩, ⟨x8, x9, xa, xb⟩⟩ := id hA1; obtain ⟨_, ⟨y0, y1, y2, y3⟩, ⟨y4, y5, y6, y7⟩, ⟨y8, y9, ya, yb⟩⟩ := id hX1)
      | (go_at_call 42; have _t := tok2; refine (C2 _ (hU.below hw1) (hU'.below hw1)).mono ?_; rintro e w2 ⟨rfl, hb2⟩; clear tok2; have hA2 := hA1.below hb2; have hX2 := hX1.below hb2; have hw2 := bl_trans hw1 hb2; obtain ⟨_, ⟨x0, x1, x2, x3⟩, ⟨x4, x5, x6, x7⟩, ⟨x8, x9, xa, xb⟩⟩ := id hA2; obtain ⟨_, ⟨y0, y1, y2, y3⟩, ⟨y4, y5, y6, y7⟩, ⟨y8, y9, ya, yb⟩⟩ := id hX2)
      | (go_at_call 42; have _t := tok3; refine (C3 _ (hV.below hw2) (hV'.below hw2)).mono ?_; rintro e w3 ⟨rfl, hb3⟩; clear tok3; have hA3 := hA2.below hb3; have hX3 := hX2.below hb3; have hw3 := bl_trans hw2 hb3; obtain ⟨_, ⟨x0, x1, x2, x3⟩, ⟨x4, x5, x6, x7⟩, ⟨x8, x9, xa, xb⟩⟩ := id hA3; obtain ⟨_, ⟨y0, y1, y2, y3⟩, ⟨y4, y5, y6, y7⟩, ⟨y8, y9, ya, yb⟩⟩ := id hX3)
      | (go_at_call 71; refine (cmpOr3_any c1 c2 c3 _ _ (by simp [go_sem]) (by simp [go_sem]) (by simp [go_sem])).mono ?_; rintro e w4 ⟨rfl, rfl⟩))
  go_wp2
  go_ret
  exact ⟨rfl, bl_alloc hw3 _⟩
end Go.Proofs.YtobnpfcgcoooeaaGreatDoor

/- StrE -/
namespace Go.Proofs.YtobnpfcgcoooeaaGreatDoor
open Go.RowKit Go.Deep
set_option maxRecDepth 100000

/-- A term that may be, with its text. -/
def TB.good (x : TB) : Prop := x.td.good
theorem TB.ok {x : TB} (h : x.good) : termOk x.t.k x.b x.t.n x.t.s = true := h.1
theorem fits_of_ok {k n s : Int} {b : List Int} (h : termOk k b n s = true) : -9223372036854775808 ≤ n ∧ n ≤ 9223372036854775807 ∧ -9223372036854775808 ≤ s ∧ s ≤ 9223372036854775807 := by
  unfold termOk at h
  split at h
  · simp at h; omega
  split at h
  · simp at h; omega
  split at h
  · simp at h; omega
  split at h
  · simp only [Bool.and_eq_true] at h
    have := h.2
    simp [numOk] at this
    omega
  · cases h
theorem TB.fits {x : TB} (h : x.good) : x.t.fits := fits_of_ok h.1
theorem idOf_at {l : List TD} {t : TD} {k : Nat} (hk : k < l.length) (h : ∀ j (h : j < k), (l[j]'(by omega)).cmp t ≠ 0) (he : l[k].cmp t = 0) : idOf l t = k + 1 := by
  unfold idOf
  have : l.findIdx? (fun x => decide (x.cmp t = 0)) = some k := by
    rw [List.findIdx?_eq_some_iff_getElem]
    refine ⟨hk, by simpa using he, fun j hj => ?_⟩
    simpa using h j hj
  rw [this]
  rfl
end Go.Proofs.YtobnpfcgcoooeaaGreatDoor

/- StrF -/
namespace Go.Proofs.YtobnpfcgcoooeaaGreatDoor
open Go.RowKit Go.Deep
set_option maxRecDepth 100000

theorem OwnTR.base {w : World} {B B' : Nat} {v : Value} {l : List TB} (h : OwnTR w B' v l) (hB : B ≤ B') : OwnTR w B v l := by
  obtain ⟨⟨h1, h2⟩, hl⟩ := h
  refine ⟨⟨h1, ?_⟩, fun g hg => ⟨Nat.le_trans hB (hl g hg).1, (hl g hg).2⟩⟩
  rcases h2 with h2 | ⟨g, cap, cur, hv, hb, r⟩
  · exact .inl h2
  · exact .inr ⟨g, cap, cur, hv, Nat.le_trans hB hb, r⟩
end Go.Proofs.YtobnpfcgcoooeaaGreatDoor
