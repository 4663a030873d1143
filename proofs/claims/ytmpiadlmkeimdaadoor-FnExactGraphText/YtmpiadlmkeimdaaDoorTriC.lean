/- The contracts of eqTriple (at triples that are alike) and of both TripleOk. -/
import Derived.Test.YtmpiadlmkeimdaaDoorTriB
namespace Go.Proofs.YtmpiadlmkeimdaaDoor
open Go.RowKit Go.Deep

/-- Two terms with the same numbers. -/
def Tm.like (t t' : Tm) : Prop := t.k = t'.k ∧ t.n = t'.n ∧ t.s = t'.s
theorem eqTerm_like (t t' : Tm) (bs : List Int) (w : World) (h : t.like t') (hB : Bs w t.a t.len bs) (hB' : Bs w t'.a t'.len bs) :
    Calls Tryd.prog 10 #[.agg #[.int .i64 t.k, .slice t.a t.len t.cap, .int .i64 t.n, .int .i64 t.s], .agg #[.int .i64 t'.k, .slice t'.a t'.len t'.cap, .int .i64 t'.n, .int .i64 t'.s]] w fun e w' => e = .returned (.bool true) ∧ Below w.heap.size w w' := by
  refine (eqTerm_any t.k t.n t.s t'.k t'.n t'.s t.a t'.a t.len t.cap t'.len t'.cap bs bs w hB hB').mono ?_
  rintro e w' ⟨rfl, hb⟩
  refine ⟨?_, hb⟩
  obtain ⟨h1, h2, h3⟩ := h
  simp [h1, h2, h3]

theorem eqTriple_like (t u v t' u' v' : Tm) (bt bu bv : List Int) (w : World) (lt : t.like t') (lu : u.like u') (lv : v.like v') (hT : Bs w t.a t.len bt) (hU : Bs w u.a u.len bu) (hV : Bs w v.a v.len bv) (hT' : Bs w t'.a t'.len bt) (hU' : Bs w u'.a u'.len bu) (hV' : Bs w v'.a v'.len bv) :
    Calls Tryd.prog 53 #[.agg #[.int .i64 t.k, .slice t.a t.len t.cap, .int .i64 t.n, .int .i64 t.s, .int .i64 u.k, .slice u.a u.len u.cap, .int .i64 u.n, .int .i64 u.s, .int .i64 v.k, .slice v.a v.len v.cap, .int .i64 v.n, .int .i64 v.s], .agg #[.int .i64 t'.k, .slice t'.a t'.len t'.cap, .int .i64 t'.n, .int .i64 t'.s, .int .i64 u'.k, .slice u'.a u'.len u'.cap, .int .i64 u'.n, .int .i64 u'.s, .int .i64 v'.k, .slice v'.a v'.len v'.cap, .int .i64 v'.n, .int .i64 v'.s]] w fun e w' => e = .returned (.bool true) ∧ Below w.heap.size w w' := by
  have E1 := fun w h h' => eqTerm_like t t' bt w lt h h'
  have E2 := fun w h h' => eqTerm_like u u' bu w lu h h'
  have E3 := fun w h h' => eqTerm_like v v' bv w lv h h'
  clear lt lu lv
  go_enter Tryd.func53, Tryd.ntmps53
  go_wp2_with fail
  refine (E1 _ (hT.below (bl_alloc (bl_a _) _)) (hT'.below (bl_alloc (bl_a _) _))).mono ?_
  rintro e w1 ⟨rfl, hb1⟩
  have hA := (Own12.at w w.heap.size t u v 59 rfl).1.below (bl_trans (bl_a _) hb1)
  have hX := (Own12.at (w.alloc _) (w.heap.size + 1) t' u' v' 59 (by simp)).1.below hb1
  have hw1 := bl_trans (bl_alloc (bl_a _) _) hb1
  clear hb1
  obtain ⟨_, ⟨x0, x1, x2, x3⟩, ⟨x4, x5, x6, x7⟩, ⟨x8, x9, xa, xb⟩⟩ := id hA
  obtain ⟨_, ⟨y0, y1, y2, y3⟩, ⟨y4, y5, y6, y7⟩, ⟨y8, y9, ya, yb⟩⟩ := id hX
  go_wp2_with fail
  refine (E2 _ (hU.below hw1) (hU'.below hw1)).mono ?_
  rintro e w2 ⟨rfl, hb2⟩
  replace hA := hA.below hb2
  replace hX := hX.below hb2
  replace hw1 := bl_trans hw1 hb2
  clear x0 x1 x2 x3 x4 x5 x6 x7 x8 x9 xa xb
  clear y0 y1 y2 y3 y4 y5 y6 y7 y8 y9 ya yb
  clear hb2
  obtain ⟨_, ⟨x0, x1, x2, x3⟩, ⟨x4, x5, x6, x7⟩, ⟨x8, x9, xa, xb⟩⟩ := id hA
  obtain ⟨_, ⟨y0, y1, y2, y3⟩, ⟨y4, y5, y6, y7⟩, ⟨y8, y9, ya, yb⟩⟩ := id hX
  go_wp2_with fail
  refine (E3 _ (hV.below hw1) (hV'.below hw1)).mono ?_
  rintro e w3 ⟨rfl, hb3⟩
  go_wp2
  go_ret
  exact ⟨rfl, bl_trans hw1 hb3⟩

/-- A triple that may be. -/
def tripleOk (t u v : Tm) (bt bu bv : List Int) : Bool := termOk t.k bt t.n t.s && termOk u.k bu u.n u.s && termOk v.k bv v.n v.s && decide (t.k ≤ 1) && (u.k == 0)

theorem specTripleOk_any (t u v : Tm) (bt bu bv : List Int) (w : World) (ft : t.fits) (fu : u.fits) (fv : v.fits) (hT : Bs w t.a t.len bt) (hU : Bs w u.a u.len bu) (hV : Bs w v.a v.len bv) :
    Calls Tryd.prog 48 #[.agg #[.int .i64 t.k, .slice t.a t.len t.cap, .int .i64 t.n, .int .i64 t.s, .int .i64 u.k, .slice u.a u.len u.cap, .int .i64 u.n, .int .i64 u.s, .int .i64 v.k, .slice v.a v.len v.cap, .int .i64 v.n, .int .i64 v.s]] w fun e w' => e = .returned (.bool (tripleOk t u v bt bu bv)) ∧ Below w.heap.size w w' := by
  have O1 := fun w h => specTermOk_any t.k t.n t.s t.a t.len t.cap bt w h ft.1 ft.2.1
  have O2 := fun w h => specTermOk_any u.k u.n u.s u.a u.len u.cap bu w h fu.1 fu.2.1
  have O3 := fun w h => specTermOk_any v.k v.n v.s v.a v.len v.cap bv w h fv.1 fv.2.1
  clear ft fu fv
  cases e1 : termOk t.k bt t.n t.s
  · have er : tripleOk t u v bt bu bv = false := by simp [tripleOk, e1]
    rw [er]
    rw [e1] at O1
    clear er e1
    go_enter Tryd.func48, Tryd.ntmps48
    go_wp2_with fail
    refine (O1 _ (hT.below (bl_a _))).mono ?_
    rintro e w1 ⟨rfl, o1, rfl⟩
    go_wp2
    go_ret
    exact ⟨rfl, bl_alloc (bl_a _) _⟩
  cases e2 : termOk u.k bu u.n u.s
  · have er : tripleOk t u v bt bu bv = false := by simp [tripleOk, e2]
    rw [er]
    rw [e1] at O1
    rw [e2] at O2
    clear er e1 e2
    go_enter Tryd.func48, Tryd.ntmps48
    go_wp2_with fail
    refine (O1 _ (hT.below (bl_a _))).mono ?_
    rintro e w1 ⟨rfl, o1, rfl⟩
    go_wp2_with fail
    refine (O2 _ (hU.below (bl_alloc (bl_a _) _))).mono ?_
    rintro e w1 ⟨rfl, o2, rfl⟩
    go_wp2
    go_ret
    exact ⟨rfl, bl_alloc (bl_alloc (bl_a _) _) _⟩
  cases e3 : termOk v.k bv v.n v.s
  · have er : tripleOk t u v bt bu bv = false := by simp [tripleOk, e3]
    rw [er]
    rw [e1] at O1
    rw [e2] at O2
    rw [e3] at O3
    clear er e1 e2 e3
    go_enter Tryd.func48, Tryd.ntmps48
    go_wp2_with fail
    refine (O1 _ (hT.below (bl_a _))).mono ?_
    rintro e w1 ⟨rfl, o1, rfl⟩
    go_wp2_with fail
    refine (O2 _ (hU.below (bl_alloc (bl_a _) _))).mono ?_
    rintro e w1 ⟨rfl, o2, rfl⟩
    go_wp2_with fail
    refine (O3 _ (hV.below (bl_alloc (bl_alloc (bl_a _) _) _))).mono ?_
    rintro e w1 ⟨rfl, o3, rfl⟩
    go_wp2
    go_ret
    exact ⟨rfl, bl_alloc (bl_alloc (bl_alloc (bl_a _) _) _) _⟩
  rw [e1] at O1
  rw [e2] at O2
  rw [e3] at O3
  cases c1 : decide (t.k ≤ 1)
  · have er : Hid (tripleOk t u v bt bu bv = false) := by show _ = _; simp [tripleOk, c1]
    clear e1 e2 e3
    go_enter Tryd.func48, Tryd.ntmps48
    go_wp2_with fail
    refine (O1 _ (hT.below (bl_a _))).mono ?_
    rintro e w1 ⟨rfl, o1, rfl⟩
    go_wp2_with fail
    refine (O2 _ (hU.below (bl_alloc (bl_a _) _))).mono ?_
    rintro e w1 ⟨rfl, o2, rfl⟩
    go_wp2_with fail
    refine (O3 _ (hV.below (bl_alloc (bl_alloc (bl_a _) _) _))).mono ?_
    rintro e w1 ⟨rfl, o3, rfl⟩
    go_wp2
    go_ret
    exact ⟨by rw [er.out]; rfl, bl_alloc (bl_alloc (bl_alloc (bl_a _) _) _) _⟩
  · have er : Hid (tripleOk t u v bt bu bv = (u.k == 0)) := by show _ = _; simp [tripleOk, e1, e2, e3, c1]
    clear e1 e2 e3
    go_enter Tryd.func48, Tryd.ntmps48
    go_wp2_with fail
    refine (O1 _ (hT.below (bl_a _))).mono ?_
    rintro e w1 ⟨rfl, o1, rfl⟩
    go_wp2_with fail
    refine (O2 _ (hU.below (bl_alloc (bl_a _) _))).mono ?_
    rintro e w1 ⟨rfl, o2, rfl⟩
    go_wp2_with fail
    refine (O3 _ (hV.below (bl_alloc (bl_alloc (bl_a _) _) _))).mono ?_
    rintro e w1 ⟨rfl, o3, rfl⟩
    go_wp2
    go_ret
    exact ⟨by rw [er.out]; rfl, bl_alloc (bl_alloc (bl_alloc (bl_a _) _) _) _⟩

theorem isSubject_any (t : Tm) (bt : List Int) (w : World) (ft : t.fits) (hT : Bs w t.a t.len bt) :
    Calls Tryd.prog 65 #[.agg #[.int .i64 t.k, .slice t.a t.len t.cap, .int .i64 t.n, .int .i64 t.s]] w fun e w' => e = .returned (.bool (termOk t.k bt t.n t.s && decide (t.k ≤ 1))) ∧ Below w.heap.size w w' := by
  have O1 := fun w h => implTermOk_any t.k t.n t.s t.a t.len t.cap bt w h ft.1 ft.2.1 ft.2.2.1 ft.2.2.2
  clear ft
  cases e1 : termOk t.k bt t.n t.s
  · rw [e1] at O1
    clear e1
    go_enter Tryd.func65, Tryd.ntmps65
    go_wp2_with fail
    refine (O1 _ (hT.below (bl_a _))).mono ?_
    rintro e w1 ⟨rfl, hb1⟩
    go_wp2
    go_ret
    exact ⟨rfl, bl_trans (bl_a _) hb1⟩
  have hk : 0 ≤ t.k := by
    unfold termOk at e1
    split at e1
    · omega
    · split at e1
      · omega
      · split at e1
        · omega
        · split at e1
          · omega
          · cases e1
  rw [e1] at O1
  clear e1
  simp only [Bool.true_and]
  cases c0 : (t.k == 0)
  · have er : Hid (decide (t.k ≤ 1) = (t.k == 1)) := by
      show _ = _
      have : t.k ≠ 0 := by simpa using c0
      by_cases c1 : t.k = 1
      · simp [c1]
      · have : ¬ t.k ≤ 1 := by omega
        simp [c1, this]
    go_enter Tryd.func65, Tryd.ntmps65
    go_wp2_with fail
    refine (O1 _ (hT.below (bl_a _))).mono ?_
    rintro e w1 ⟨rfl, hb1⟩
    have hA := (At4.new w _ _ _ _ _).below hb1
    obtain ⟨x0, x1, x2, x3, x4⟩ := id hA
    go_wp2
    go_ret
    exact ⟨by rw [er.out]; rfl, bl_trans (bl_a _) hb1⟩
  · have er : Hid (decide (t.k ≤ 1) = true) := by
      show _ = _
      have : t.k = 0 := by simpa using c0
      simp [this]
    go_enter Tryd.func65, Tryd.ntmps65
    go_wp2_with fail
    refine (O1 _ (hT.below (bl_a _))).mono ?_
    rintro e w1 ⟨rfl, hb1⟩
    have hA := (At4.new w _ _ _ _ _).below hb1
    obtain ⟨x0, x1, x2, x3, x4⟩ := id hA
    go_wp2
    go_ret
    exact ⟨by rw [er.out]; rfl, bl_trans (bl_a _) hb1⟩

theorem isProperty_any (t : Tm) (bt : List Int) (w : World) (ft : t.fits) (hT : Bs w t.a t.len bt) :
    Calls Tryd.prog 66 #[.agg #[.int .i64 t.k, .slice t.a t.len t.cap, .int .i64 t.n, .int .i64 t.s]] w fun e w' => e = .returned (.bool (termOk t.k bt t.n t.s && (t.k == 0))) ∧ Below w.heap.size w w' := by
  have O1 := fun w h => implTermOk_any t.k t.n t.s t.a t.len t.cap bt w h ft.1 ft.2.1 ft.2.2.1 ft.2.2.2
  clear ft
  cases e1 : termOk t.k bt t.n t.s
  · rw [e1] at O1
    clear e1
    go_enter Tryd.func66, Tryd.ntmps66
    go_wp2_with fail
    refine (O1 _ (hT.below (bl_a _))).mono ?_
    rintro e w1 ⟨rfl, hb1⟩
    go_wp2
    go_ret
    exact ⟨rfl, bl_trans (bl_a _) hb1⟩
  rw [e1] at O1
  clear e1
  simp only [Bool.true_and]
  go_enter Tryd.func66, Tryd.ntmps66
  go_wp2_with fail
  refine (O1 _ (hT.below (bl_a _))).mono ?_
  rintro e w1 ⟨rfl, hb1⟩
  have hA := (At4.new w _ _ _ _ _).below hb1
  obtain ⟨x0, x1, x2, x3, x4⟩ := id hA
  go_wp2
  go_ret
  exact ⟨rfl, bl_trans (bl_a _) hb1⟩

theorem implTripleOk_any (t u v : Tm) (bt bu bv : List Int) (w : World) (ft : t.fits) (fu : u.fits) (fv : v.fits) (hT : Bs w t.a t.len bt) (hU : Bs w u.a u.len bu) (hV : Bs w v.a v.len bv) :
    Calls Tryd.prog 51 #[.agg #[.int .i64 t.k, .slice t.a t.len t.cap, .int .i64 t.n, .int .i64 t.s, .int .i64 u.k, .slice u.a u.len u.cap, .int .i64 u.n, .int .i64 u.s, .int .i64 v.k, .slice v.a v.len v.cap, .int .i64 v.n, .int .i64 v.s]] w fun e w' => e = .returned (.bool (tripleOk t u v bt bu bv)) ∧ Below w.heap.size w w' := by
  have O1 := fun w h => isSubject_any t bt w ft h
  have O2 := fun w h => isProperty_any u bu w fu h
  have O3 := fun w h => implTermOk_any v.k v.n v.s v.a v.len v.cap bv w h fv.1 fv.2.1 fv.2.2.1 fv.2.2.2
  clear ft fu fv
  have er : tripleOk t u v bt bu bv = ((termOk t.k bt t.n t.s && decide (t.k ≤ 1)) && (termOk u.k bu u.n u.s && (u.k == 0)) && termOk v.k bv v.n v.s) := by
    unfold tripleOk
    cases termOk t.k bt t.n t.s <;> cases termOk u.k bu u.n u.s <;> cases termOk v.k bv v.n v.s <;> simp
  rw [er]
  clear er
  generalize (termOk t.k bt t.n t.s && decide (t.k ≤ 1)) = p1 at *
  generalize (termOk u.k bu u.n u.s && (u.k == 0)) = p2 at *
  generalize termOk v.k bv v.n v.s = p3 at *
  cases p1
  · simp only [Bool.false_and]
    go_enter Tryd.func51, Tryd.ntmps51
    go_wp2_with fail
    refine (O1 _ (hT.below (bl_a _))).mono ?_
    rintro e w1 ⟨rfl, hb1⟩
    go_wp2
    go_ret
    exact ⟨rfl, bl_trans (bl_a _) hb1⟩
  cases p2
  · simp only [Bool.false_and, Bool.true_and]
    go_enter Tryd.func51, Tryd.ntmps51
    go_wp2_with fail
    refine (O1 _ (hT.below (bl_a _))).mono ?_
    rintro e w1 ⟨rfl, hb1⟩
    have hA := (Own12.at w w.heap.size t u v 59 rfl).1.below hb1
    have hw1 := bl_trans (bl_a _) hb1
    clear hb1
    obtain ⟨_, ⟨x0, x1, x2, x3⟩, ⟨x4, x5, x6, x7⟩, ⟨x8, x9, xa, xb⟩⟩ := id hA
    go_wp2_with fail
    refine (O2 _ (hU.below hw1)).mono ?_
    rintro e w2 ⟨rfl, hb2⟩
    go_wp2
    go_ret
    exact ⟨rfl, bl_trans hw1 hb2⟩
  simp only [Bool.true_and]
  go_enter Tryd.func51, Tryd.ntmps51
  go_wp2_with fail
  refine (O1 _ (hT.below (bl_a _))).mono ?_
  rintro e w1 ⟨rfl, hb1⟩
  have hA := (Own12.at w w.heap.size t u v 59 rfl).1.below hb1
  have hw1 := bl_trans (bl_a _) hb1
  clear hb1
  obtain ⟨_, ⟨x0, x1, x2, x3⟩, ⟨x4, x5, x6, x7⟩, ⟨x8, x9, xa, xb⟩⟩ := id hA
  go_wp2_with fail
  refine (O2 _ (hU.below hw1)).mono ?_
  rintro e w2 ⟨rfl, hb2⟩
  replace hA := hA.below hb2
  replace hw1 := bl_trans hw1 hb2
  clear x0 x1 x2 x3 x4 x5 x6 x7 x8 x9 xa xb
  clear hb2
  obtain ⟨_, ⟨x0, x1, x2, x3⟩, ⟨x4, x5, x6, x7⟩, ⟨x8, x9, xa, xb⟩⟩ := id hA
  go_wp2_with fail
  refine (O3 _ (hV.below hw1)).mono ?_
  rintro e w3 ⟨rfl, hb3⟩
  go_wp2
  go_ret
  exact ⟨rfl, bl_trans hw1 hb3⟩
end Go.Proofs.YtmpiadlmkeimdaaDoor
