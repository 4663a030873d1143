/- Texts put together: TriC GraA StrC -/
import Derived.Test.YtdcaicoomldmgaaGreatDoorMk06
import Derived.Deep.RegionHeld3
import Derived.Test.YtdcaicoomldmgaaGreatDoorMk05
import Derived.Deep.AppendLies
/- TriC -/
namespace Go.Proofs.YtdcaicoomldmgaaGreatDoor
open Go.RowKit Go.Deep

/-- Two terms with the same numbers. -/
def Tm.like (t t' : Tm) : Prop := t.k = t'.k ∧ t.n = t'.n ∧ t.s = t'.s
theorem eqTerm_like (t t' : Tm) (bs : List Int) (w : World) (h : t.like t') (hB : Bs w t.a t.len bs) (hB' : Bs w t'.a t'.len bs) :
    Calls Tryz.prog 22 #[.agg #[.int .i64 t.k, .slice t.a t.len t.cap, .int .i64 t.n, .int .i64 t.s], .agg #[.int .i64 t'.k, .slice t'.a t'.len t'.cap, .int .i64 t'.n, .int .i64 t'.s]] w fun e w' => e = .returned (.bool true) ∧ Below w.heap.size w w' := by
  refine (eqTerm_any t.k t.n t.s t'.k t'.n t'.s t.a t'.a t.len t.cap t'.len t'.cap bs bs w hB hB').mono ?_
  rintro e w' ⟨rfl, hb⟩
  refine ⟨?_, hb⟩
  obtain ⟨h1, h2, h3⟩ := h
  simp [h1, h2, h3]

theorem eqTriple_like (t u v t' u' v' : Tm) (bt bu bv : List Int) (w : World) (lt : t.like t') (lu : u.like u') (lv : v.like v') (hT : Bs w t.a t.len bt) (hU : Bs w u.a u.len bu) (hV : Bs w v.a v.len bv) (hT' : Bs w t'.a t'.len bt) (hU' : Bs w u'.a u'.len bu) (hV' : Bs w v'.a v'.len bv) :
    Calls Tryz.prog 88 #[.agg #[.int .i64 t.k, .slice t.a t.len t.cap, .int .i64 t.n, .int .i64 t.s, .int .i64 u.k, .slice u.a u.len u.cap, .int .i64 u.n, .int .i64 u.s, .int .i64 v.k, .slice v.a v.len v.cap, .int .i64 v.n, .int .i64 v.s], .agg #[.int .i64 t'.k, .slice t'.a t'.len t'.cap, .int .i64 t'.n, .int .i64 t'.s, .int .i64 u'.k, .slice u'.a u'.len u'.cap, .int .i64 u'.n, .int .i64 u'.s, .int .i64 v'.k, .slice v'.a v'.len v'.cap, .int .i64 v'.n, .int .i64 v'.s]] w fun e w' => e = .returned (.bool true) ∧ Below w.heap.size w w' := by
  have E1 := fun w h h' => eqTerm_like t t' bt w lt h h'
  have E2 := fun w h h' => eqTerm_like u u' bu w lu h h'
  have E3 := fun w h h' => eqTerm_like v v' bv w lv h h'
  clear lt lu lv
  go_enter Tryz.func88, Tryz.ntmps88
  go_wp2_with fail
  refine (E1 _ (hT.below (bl_alloc (bl_a _) _)) (hT'.below (bl_alloc (bl_a _) _))).mono ?_
  rintro e w1 ⟨rfl, hb1⟩
  have hA := (Own12.at w w.heap.size t u v 110 rfl).1.below (bl_trans (bl_a _) hb1)
  have hX := (Own12.at (w.alloc _) (w.heap.size + 1) t' u' v' 110 (by simp)).1.below hb1
  have hw1 := bl_trans (bl_alloc (bl_a _) _) hb1
  clear hb1
  obtain ⟨_, ⟨x0, x1, x2, x3⟩, ⟨x4, x5, x6, x7⟩, ⟨x8, x9, xa, xb⟩⟩ := id hA
  obtain ⟨_, ⟨y0, y1, y2, y3⟩, ⟨y4, y5, y6, y7⟩, ⟨y8, y9, ya, yb⟩⟩ := id hX
  go_wp2_with fail
  refine (E2 _ (hU.below hw1) (hU'.below hw1)).mono ?_
  rintro e w2 ⟨rfl, hb2⟩
  replace hA := hA.below hb2
  replace hX := hX.below hb2
  replace hw1 := bl_trans hw1 hb2
  clear x0 x1 x2 x3 x4 x5 x6 x7 x8 x9 xa xb
  clear y0 y1 y2 y3 y4 y5 y6 y7 y8 y9 ya yb
  clear hb2
  obtain ⟨_, ⟨x0, x1, x2, x3⟩, ⟨x4, x5, x6, x7⟩, ⟨x8, x9, xa, xb⟩⟩ := id hA
  obtain ⟨_, ⟨y0, y1, y2, y3⟩, ⟨y4, y5, y6, y7⟩, ⟨y8, y9, ya, yb⟩⟩ := id hX
  go_wp2_with fail
  refine (E3 _ (hV.below hw1) (hV'.below hw1)).mono ?_
  rintro e w3 ⟨rfl, hb3⟩
  go_wp2
  go_ret
  exact ⟨rfl, bl_trans hw1 hb3⟩

/-- A triple that may be. -/
def tripleOk (t u v : Tm) (bt bu bv : List Int) : Bool := termOk t.k bt t.n t.s && termOk u.k bu u.n u.s && termOk v.k bv v.n v.s && decide (t.k ≤ 1) && (u.k == 0)

theorem specTripleOk_any (t u v : Tm) (bt bu bv : List Int) (w : World) (ft : t.fits) (fu : u.fits) (fv : v.fits) (hT : Bs w t.a t.len bt) (hU : Bs w u.a u.len bu) (hV : Bs w v.a v.len bv) :
    Calls Tryz.prog 73 #[.agg #[.int .i64 t.k, .slice t.a t.len t.cap, .int .i64 t.n, .int .i64 t.s, .int .i64 u.k, .slice u.a u.len u.cap, .int .i64 u.n, .int .i64 u.s, .int .i64 v.k, .slice v.a v.len v.cap, .int .i64 v.n, .int .i64 v.s]] w fun e w' => e = .returned (.bool (tripleOk t u v bt bu bv)) ∧ Below w.heap.size w w' := by
  have O1 := fun w h => specTermOk_any t.k t.n t.s t.a t.len t.cap bt w h ft.1 ft.2.1
  have O2 := fun w h => specTermOk_any u.k u.n u.s u.a u.len u.cap bu w h fu.1 fu.2.1
  have O3 := fun w h => specTermOk_any v.k v.n v.s v.a v.len v.cap bv w h fv.1 fv.2.1
  clear ft fu fv
  cases e1 : termOk t.k bt t.n t.s
  · have er : tripleOk t u v bt bu bv = false := by simp [tripleOk, e1]
    rw [er]
    rw [e1] at O1
    clear er e1
    go_enter Tryz.func73, Tryz.ntmps73
    go_wp2_with fail
    refine (O1 _ (hT.below (bl_a _))).mono ?_
    rintro e w1 ⟨rfl, o1, rfl⟩
    go_wp2
    go_ret
    exact ⟨rfl, bl_alloc (bl_a _) _⟩
  cases e2 : termOk u.k bu u.n u.s
  · have er : tripleOk t u v bt bu bv = false := by simp [tripleOk, e2]
    rw [er]
    rw [e1] at O1
    rw [e2] at O2
    clear er e1 e2
    go_enter Tryz.func73, Tryz.ntmps73
    go_wp2_with fail
    refine (O1 _ (hT.below (bl_a _))).mono ?_
    rintro e w1 ⟨rfl, o1, rfl⟩
    go_wp2_with fail
    refine (O2 _ (hU.below (bl_alloc (bl_a _) _))).mono ?_
    rintro e w1 ⟨rfl, o2, rfl⟩
    go_wp2
    go_ret
    exact ⟨rfl, bl_alloc (bl_alloc (bl_a _) _) _⟩
  cases e3 : termOk v.k bv v.n v.s
  · have er : tripleOk t u v bt bu bv = false := by simp [tripleOk, e3]
    rw [er]
    rw [e1] at O1
    rw [e2] at O2
    rw [e3] at O3
    clear er e1 e2 e3
    go_enter Tryz.func73, Tryz.ntmps73
    go_wp2_with fail
    refine (O1 _ (hT.below (bl_a _))).mono ?_
    rintro e w1 ⟨rfl, o1, rfl⟩
    go_wp2_with fail
    refine (O2 _ (hU.below (bl_alloc (bl_a _) _))).mono ?_
    rintro e w1 ⟨rfl, o2, rfl⟩
    go_wp2_with fail
    refine (O3 _ (hV.below (bl_alloc (bl_alloc (bl_a _) _) _))).mono ?_
    rintro e w1 ⟨rfl, o3, rfl⟩
    go_wp2
    go_ret
    exact ⟨rfl, bl_alloc (bl_alloc (bl_alloc (bl_a _) _) _) _⟩
  rw [e1] at O1
  rw [e2] at O2
  rw [e3] at O3
  cases c1 : decide (t.k ≤ 1)
  · have er : Hid (tripleOk t u v bt bu bv = false) := by show _ = _; simp [tripleOk, c1]
    clear e1 e2 e3
    go_enter Tryz.func73, Tryz.ntmps73
    go_wp2_with fail
    refine (O1 _ (hT.below (bl_a _))).mono ?_
    rintro e w1 ⟨rfl, o1, rfl⟩
    go_wp2_with fail
    refine (O2 _ (hU.below (bl_alloc (bl_a _) _))).mono ?_
    rintro e w1 ⟨rfl, o2, rfl⟩
    go_wp2_with fail
    refine (O3 _ (hV.below (bl_alloc (bl_alloc (bl_a _) _) _))).mono ?_
    rintro e w1 ⟨rfl, o3, rfl⟩
    go_wp2
    go_ret
    exact ⟨by rw [er.out]; rfl, bl_alloc (bl_alloc (bl_alloc (bl_a _) _) _) _⟩
  · have er : Hid (tripleOk t u v bt bu bv = (u.k == 0)) := by show _ = _; simp [tripleOk, e1, e2, e3, c1]
    clear e1 e2 e3
    go_enter Tryz.func73, Tryz.ntmps73
    go_wp2_with fail
    refine (O1 _ (hT.below (bl_a _))).mono ?_
    rintro e w1 ⟨rfl, o1, rfl⟩
    go_wp2_with fail
    refine (O2 _ (hU.below (bl_alloc (bl_a _) _))).mono ?_
    rintro e w1 ⟨rfl, o2, rfl⟩
    go_wp2_with fail
    refine (O3 _ (hV.below (bl_alloc (bl_alloc (bl_a _) _) _))).mono ?_
    rintro e w1 ⟨rfl, o3, rfl⟩
    go_wp2
    go_ret
    exact ⟨by rw [er.out]; rfl, bl_alloc (bl_alloc (bl_alloc (bl_a _) _) _) _⟩

theorem isSubject_any (t : Tm) (bt : List Int) (w : World) (ft : t.fits) (hT : Bs w t.a t.len bt) :
    Calls Tryz.prog 109 #[.agg #[.int .i64 t.k, .slice t.a t.len t.cap, .int .i64 t.n, .int .i64 t.s]] w fun e w' => e = .returned (.bool (termOk t.k bt t.n t.s && decide (t.k ≤ 1))) ∧ Below w.heap.size w w' := by
  have O1 := fun w h => implTermOk_any t.k t.n t.s t.a t.len t.cap bt w h ft.1 ft.2.1 ft.2.2.1 ft.2.2.2
  clear ft
  cases e1 : termOk t.k bt t.n t.s
  · rw [e1] at O1
    clear e1
    go_enter Tryz.func109, Tryz.ntmps109
    go_wp2_with fail
    refine (O1 _ (hT.below (bl_a _))).mono ?_
    rintro e w1 ⟨rfl, hb1⟩
    go_wp2
    go_ret
    exact ⟨rfl, bl_trans (bl_a _) hb1⟩
  have hk : 0 ≤ t.k := by
    unfold termOk at e1
    split at e1
    · omega
    · split at e1
      · omega
      · split at e1
        · omega
        · split at e1
          · omega
          · cases e1
  rw [e1] at O1
  clear e1
  simp only [Bool.true_and]
  cases c0 : (t.k == 0)
  · have er : Hid (decide (t.k ≤ 1) = (t.k == 1)) := by
      show _ = _
      have : t.k ≠ 0 := by simpa using c0
      by_cases c1 : t.k = 1
      · simp [c1]
      · have : ¬ t.k ≤ 1 := by omega
        simp [c1, this]
    go_enter Tryz.func109, Tryz.ntmps109
    go_wp2_with fail
    refine (O1 _ (hT.below (bl_a _))).mono ?_
    rintro e w1 ⟨rfl, hb1⟩
    have hA := (At4.new w _ _ _ _ _).below hb1
    obtain ⟨x0, x1, x2, x3, x4⟩ := id hA
    go_wp2
    go_ret
    exact ⟨by rw [er.out]; rfl, bl_trans (bl_a _) hb1⟩
  · have er : Hid (decide (t.k ≤ 1) = true) := by
      show _ = _
      have : t.k = 0 := by simpa using c0
      simp [this]
    go_enter Tryz.func109, Tryz.ntmps109
    go_wp2_with fail
    refine (O1 _ (hT.below (bl_a _))).mono ?_
    rintro e w1 ⟨rfl, hb1⟩
    have hA := (At4.new w _ _ _ _ _).below hb1
    obtain ⟨x0, x1, x2, x3, x4⟩ := id hA
    go_wp2
    go_ret
    exact ⟨by rw [er.out]; rfl, bl_trans (bl_a _) hb1⟩

theorem isProperty_any (t : Tm) (bt : List Int) (w : World) (ft : t.fits) (hT : Bs w t.a t.len bt) :
    Calls Tryz.prog 110 #[.agg #[.int .i64 t.k, .slice t.a t.len t.cap, .int .i64 t.n, .int .i64 t.s]] w fun e w' => e = .returned (.bool (termOk t.k bt t.n t.s && (t.k == 0))) ∧ Below w.heap.size w w' := by
  have O1 := fun w h => implTermOk_any t.k t.n t.s t.a t.len t.cap bt w h ft.1 ft.2.1 ft.2.2.1 ft.2.2.2
  clear ft
  cases e1 : termOk t.k bt t.n t.s
  · rw [e1] at O1
    clear e1
    go_enter Tryz.func110, Tryz.ntmps110
    go_wp2_with fail
    refine (O1 _ (hT.below (bl_a _))).mono ?_
    rintro e w1 ⟨rfl, hb1⟩
    go_wp2
    go_ret
    exact ⟨rfl, bl_trans (bl_a _) hb1⟩
  rw [e1] at O1
  clear e1
  simp only [Bool.true_and]
  go_enter Tryz.func110, Tryz.ntmps110
  go_wp2_with fail
  refine (O1 _ (hT.below (bl_a _))).mono ?_
  rintro e w1 ⟨rfl, hb1⟩
  have hA := (At4.new w _ _ _ _ _).below hb1
  obtain ⟨x0, x1, x2, x3, x4⟩ := id hA
  go_wp2
  go_ret
  exact ⟨rfl, bl_trans (bl_a _) hb1⟩

theorem implTripleOk_any (t u v : Tm) (bt bu bv : List Int) (w : World) (ft : t.fits) (fu : u.fits) (fv : v.fits) (hT : Bs w t.a t.len bt) (hU : Bs w u.a u.len bu) (hV : Bs w v.a v.len bv) :
    Calls Tryz.prog 79 #[.agg #[.int .i64 t.k, .slice t.a t.len t.cap, .int .i64 t.n, .int .i64 t.s, .int .i64 u.k, .slice u.a u.len u.cap, .int .i64 u.n, .int .i64 u.s, .int .i64 v.k, .slice v.a v.len v.cap, .int .i64 v.n, .int .i64 v.s]] w fun e w' => e = .returned (.bool (tripleOk t u v bt bu bv)) ∧ Below w.heap.size w w' := by
  have O1 := fun w h => isSubject_any t bt w ft h
  have O2 := fun w h => isProperty_any u bu w fu h
  have O3 := fun w h => implTermOk_any v.k v.n v.s v.a v.len v.cap bv w h fv.1 fv.2.1 fv.2.2.1 fv.2.2.2
  clear ft fu fv
  have er : tripleOk t u v bt bu bv = ((termOk t.k bt t.n t.s && decide (t.k ≤ 1)) && (termOk u.k bu u.n u.s && (u.k == 0)) && termOk v.k bv v.n v.s) := by
    unfold tripleOk
    cases termOk t.k bt t.n t.s <;> cases termOk u.k bu u.n u.s <;> cases termOk v.k bv v.n v.s <;> simp
  rw [er]
  clear er
  generalize (termOk t.k bt t.n t.s && decide (t.k ≤ 1)) = p1 at *
  generalize (termOk u.k bu u.n u.s && (u.k == 0)) = p2 at *
  generalize termOk v.k bv v.n v.s = p3 at *
  cases p1
  · simp only [Bool.false_and]
    go_enter Tryz.func79, Tryz.ntmps79
    go_wp2_with fail
    refine (O1 _ (hT.below (bl_a _))).mono ?_
    rintro e w1 ⟨rfl, hb1⟩
    go_wp2
    go_ret
    exact ⟨rfl, bl_trans (bl_a _) hb1⟩
  cases p2
  · simp only [Bool.false_and, Bool.true_and]
    go_enter Tryz.func79, Tryz.ntmps79
    go_wp2_with fail
    refine (O1 _ (hT.below (bl_a _))).mono ?_
    rintro e w1 ⟨rfl, hb1⟩
    have hA := (Own12.at w w.heap.size t u v 110 rfl).1.below hb1
    have hw1 := bl_trans (bl_a _) hb1
    clear hb1
    obtain ⟨_, ⟨x0, x1, x2, x3⟩, ⟨x4, x5, x6, x7⟩, ⟨x8, x9, xa, xb⟩⟩ := id hA
    go_wp2_with fail
    refine (O2 _ (hU.below hw1)).mono ?_
    rintro e w2 ⟨rfl, hb2⟩
    go_wp2
    go_ret
    exact ⟨rfl, bl_trans hw1 hb2⟩
  simp only [Bool.true_and]
  go_enter Tryz.func79, Tryz.ntmps79
  go_wp2_with fail
  refine (O1 _ (hT.below (bl_a _))).mono ?_
  rintro e w1 ⟨rfl, hb1⟩
  have hA := (Own12.at w w.heap.size t u v 110 rfl).1.below hb1
  have hw1 := bl_trans (bl_a _) hb1
  clear hb1
  obtain ⟨_, ⟨x0, x1, x2, x3⟩, ⟨x4, x5, x6, x7⟩, ⟨x8, x9, xa, xb⟩⟩ := id hA
  go_wp2_with fail
  refine (O2 _ (hU.below hw1)).mono ?_
  rintro e w2 ⟨rfl, hb2⟩
  replace hA := hA.below hb2
  replace hw1 := bl_trans hw1 hb2
  clear x0 x1 x2 x3 x4 x5 x6 x7 x8 x9 xa xb
  clear hb2
  obtain ⟨_, ⟨x0, x1, x2, x3⟩, ⟨x4, x5, x6, x7⟩, ⟨x8, x9, xa, xb⟩⟩ := id hA
  go_wp2_with fail
  refine (O3 _ (hV.below hw1)).mono ?_
  rintro e w3 ⟨rfl, hb3⟩
  go_wp2
  go_ret
  exact ⟨rfl, bl_trans hw1 hb3⟩
end Go.Proofs.YtdcaicoomldmgaaGreatDoor

/- GraA -/
namespace Go.Proofs.YtdcaicoomldmgaaGreatDoor
open Go.RowKit Go.Deep

/-- Three terms in a row from place o on in block b. -/
def Row12 (w : World) (b o : Nat) (t u v : Tm) : Prop :=
  (w.cell? ⟨b, o, none⟩ = some (.int .i64 t.k) ∧ w.cell? ⟨b, o + 1, none⟩ = some (.slice t.a t.len t.cap) ∧ w.cell? ⟨b, o + 2, none⟩ = some (.int .i64 t.n) ∧ w.cell? ⟨b, o + 3, none⟩ = some (.int .i64 t.s)) ∧
    (w.cell? ⟨b, o + 4, none⟩ = some (.int .i64 u.k) ∧ w.cell? ⟨b, o + 5, none⟩ = some (.slice u.a u.len u.cap) ∧ w.cell? ⟨b, o + 6, none⟩ = some (.int .i64 u.n) ∧ w.cell? ⟨b, o + 7, none⟩ = some (.int .i64 u.s)) ∧
    (w.cell? ⟨b, o + 8, none⟩ = some (.int .i64 v.k) ∧ w.cell? ⟨b, o + 9, none⟩ = some (.slice v.a v.len v.cap) ∧ w.cell? ⟨b, o + 10, none⟩ = some (.int .i64 v.n) ∧ w.cell? ⟨b, o + 11, none⟩ = some (.int .i64 v.s))
/-- n triples behind an address. -/
def Rows (w : World) (a : Option Addr) (n : Nat) (T U V : Nat → Tm) : Prop :=
  n = 0 ∨ ∃ b off, a = some ⟨b, off, none⟩ ∧ b < w.heap.size ∧ ∀ i, i < n → Row12 w b (off + i * 12) (T i) (U i) (V i)
theorem Row12.of_block {w w' : World} {b o : Nat} {t u v : Tm} (h : Row12 w b o t u v) (hb : w'.heap[b]? = w.heap[b]?) : Row12 w' b o t u v := by
  have e : ∀ i, w'.cell? ⟨b, i, none⟩ = w.cell? ⟨b, i, none⟩ := fun i => World.cell?_of_block (w := w) (a := ⟨b, i, none⟩) hb
  unfold Row12
  simp only [e]
  exact h
theorem Rows.below {w w' : World} {a : Option Addr} {n : Nat} {T U V : Nat → Tm} (h : Rows w a n T U V) (hb : Below w.heap.size w w') : Rows w' a n T U V := by
  rcases h with h | ⟨b, off, ha, hlt, hc⟩
  · exact .inl h
  · exact .inr ⟨b, off, ha, Nat.lt_of_lt_of_le hlt hb.size, fun i hi => (hc i hi).of_block (hb.block b hlt)⟩
/-- Their texts. -/
def Texts (w : World) (n : Nat) (T : Nat → Tm) (B : Nat → List Int) : Prop := ∀ i, i < n → Bs w (T i).a (T i).len (B i)
theorem Texts.below {w w' : World} {n : Nat} {T : Nat → Tm} {B : Nat → List Int} (h : Texts w n T B) (hb : Below w.heap.size w w') : Texts w' n T B := fun i hi => (h i hi).below hb

theorem bl_drew0 {w : World} : Below w.heap.size w w.drew := Below.drew (Below.refl _ _)

set_option maxRecDepth 20000 in
set_option maxHeartbeats 2000000 in
theorem eqTripleS_like (a a' : Option Addr) (n cap cap' : Nat) (T U V T' U' V' : Nat → Tm) (bt bu bv : Nat → List Int) (w : World) (hn : n ≤ 1048576)
    (hR : Rows w a n T U V) (hR' : Rows w a' n T' U' V') (h1 : Texts w n T bt) (h2 : Texts w n U bu) (h3 : Texts w n V bv) (h1' : Texts w n T' bt) (h2' : Texts w n U' bu) (h3' : Texts w n V' bv)
    (l1 : ∀ i, i < n → (T i).like (T' i)) (l2 : ∀ i, i < n → (U i).like (U' i)) (l3 : ∀ i, i < n → (V i).like (V' i)) :
    Calls Tryz.prog 44 #[.slice a n cap, .slice a' n cap'] w fun e w' => e = .returned (.bool true) ∧ Below w.heap.size w w' := by
  by_cases hn0 : n = 0
  · subst hn0
    go_enter Tryz.func44, Tryz.ntmps44
    go_wp2
    refine wp_loop_rounds 1 ?_
    rw [rounds_succ]
    go_wp2
    go_ret
    exact ⟨rfl, Below.refl _ _⟩
  obtain ⟨b, off, rfl, hlt, hc⟩ := hR.resolve_left hn0
  obtain ⟨b', off', rfl, hlt', hc'⟩ := hR'.resolve_left hn0
  clear hR hR'
  go_enter Tryz.func44, Tryz.ntmps44
  go_wp2
  go_loopw [5] (fun i wr => ∃ k : Nat, k ≤ n ∧ i = .int .i64 k ∧ Below w.heap.size w wr)
    (fun i _ => n - (intOf i).toNat)
  case atStart => exact ⟨0, Nat.zero_le _, rfl, Below.refl _ _⟩
  case round =>
    obtain ⟨k, hk, rfl, hb⟩ := hrel
    by_cases hlk : k < n
    · have hx := (hc k hlk).of_block (hb.block b hlt)
      have hy := (hc' k hlk).of_block (hb.block b' hlt')
      have E := fun (w' : World) (hq : Below w.heap.size w w') => eqTriple_like (T k) (U k) (V k) (T' k) (U' k) (V' k) (bt k) (bu k) (bv k) w' (l1 k hlk) (l2 k hlk) (l3 k hlk) ((h1 k hlk).below hq) ((h2 k hlk).below hq) ((h3 k hlk).below hq) ((h1' k hlk).below hq) ((h2' k hlk).below hq) ((h3' k hlk).below hq)
      clear hc hc' h1 h2 h3 h1' h2' h3' l1 l2 l3
      have hx0 := hx
      have hy0 := hy
      obtain ⟨⟨x0, x1, x2, x3⟩, ⟨x4, x5, x6, x7⟩, ⟨x8, x9, xa, xb⟩⟩ := hx
      obtain ⟨⟨y0, y1, y2, y3⟩, ⟨y4, y5, y6, y7⟩, ⟨y8, y9, ya, yb⟩⟩ := hy
      go_wp2_with fail
      go_region_held3 (fun w' => w'.cell? ⟨b, off + k * 12, none⟩ = some (.int .i64 (T k).k) ∧ w'.cell? ⟨b, off + k * 12 + 1, none⟩ = some (.slice (T k).a (T k).len (T k).cap) ∧ w'.cell? ⟨b, off + k * 12 + 2, none⟩ = some (.int .i64 (T k).n) ∧ w'.cell? ⟨b, off + k * 12 + 3, none⟩ = some (.int .i64 (T k).s) ∧ w'.cell? ⟨b, off + k * 12 + 4, none⟩ = some (.int .i64 (U k).k) ∧ w'.cell? ⟨b, off + k * 12 + 5, none⟩ = some (.slice (U k).a (U k).len (U k).cap) ∧ w'.cell? ⟨b, off + k * 12 + 6, none⟩ = some (.int .i64 (U k).n) ∧ w'.cell? ⟨b, off + k * 12 + 7, none⟩ = some (.int .i64 (U k).s) ∧ w'.cell? ⟨b, off + k * 12 + 8, none⟩ = some (.int .i64 (V k).k) ∧ w'.cell? ⟨b, off + k * 12 + 9, none⟩ = some (.slice (V k).a (V k).len (V k).cap) ∧ w'.cell? ⟨b, off + k * 12 + 10, none⟩ = some (.int .i64 (V k).n) ∧ w'.cell? ⟨b, off + k * 12 + 11, none⟩ = some (.int .i64 (V k).s) ∧ w'.cell? ⟨b', off' + k * 12, none⟩ = some (.int .i64 (T' k).k) ∧ w'.cell? ⟨b', off' + k * 12 + 1, none⟩ = some (.slice (T' k).a (T' k).len (T' k).cap) ∧ w'.cell? ⟨b', off' + k * 12 + 2, none⟩ = some (.int .i64 (T' k).n) ∧ w'.cell? ⟨b', off' + k * 12 + 3, none⟩ = some (.int .i64 (T' k).s) ∧ w'.cell? ⟨b', off' + k * 12 + 4, none⟩ = some (.int .i64 (U' k).k) ∧ w'.cell? ⟨b', off' + k * 12 + 5, none⟩ = some (.slice (U' k).a (U' k).len (U' k).cap) ∧ w'.cell? ⟨b', off' + k * 12 + 6, none⟩ = some (.int .i64 (U' k).n) ∧ w'.cell? ⟨b', off' + k * 12 + 7, none⟩ = some (.int .i64 (U' k).s) ∧ w'.cell? ⟨b', off' + k * 12 + 8, none⟩ = some (.int .i64 (V' k).k) ∧ w'.cell? ⟨b', off' + k * 12 + 9, none⟩ = some (.slice (V' k).a (V' k).len (V' k).cap) ∧ w'.cell? ⟨b', off' + k * 12 + 10, none⟩ = some (.int .i64 (V' k).n) ∧ w'.cell? ⟨b', off' + k * 12 + 11, none⟩ = some (.int .i64 (V' k).s)) (simp [*, go_sem])
        (first
          | (go_at_call 88; refine (E _ (bl_trans hb bl_drew0)).mono ?_; rintro e w2 ⟨rfl, hb2⟩; have hb3 := bl_trans bl_drew0 hb2; obtain ⟨⟨x0, x1, x2, x3⟩, ⟨x4, x5, x6, x7⟩, ⟨x8, x9, xa, xb⟩⟩ := hx0.of_block (hb3.block b (Nat.lt_of_lt_of_le hlt hb.size)); obtain ⟨⟨y0, y1, y2, y3⟩, ⟨y4, y5, y6, y7⟩, ⟨y8, y9, ya, yb⟩⟩ := hy0.of_block (hb3.block b' (Nat.lt_of_lt_of_le hlt' hb.size))))
      go_wp2
      go_roundw
      case rel => exact ⟨k + 1, by omega, by go_num, bl_trans hb hb3⟩
      case measure => simp [intOf]; omega
    · clear hc hc' h1 h2 h3 h1' h2' h3' l1 l2 l3
      go_wp2
      go_ret
      exact ⟨rfl, hb⟩
end Go.Proofs.YtdcaicoomldmgaaGreatDoor

/- StrC -/
namespace Go.Proofs.YtdcaicoomldmgaaGreatDoor
open Go.RowKit Go.Deep
set_option maxRecDepth 100000

/-- A term's parts and what its text holds. -/
structure TB where
  t : Tm
  b : List Int
def TB.td (x : TB) : TD := ⟨x.t.k, x.b, x.t.n, x.t.s⟩
def enc4 (t : Tm) : List Value := [.int .i64 t.k, .slice t.a t.len t.cap, .int .i64 t.n, .int .i64 t.s]
/-- The cells of a row of terms. -/
def flat4 (l : List TB) : List Value := l.flatMap fun x => enc4 x.t
theorem flat4_len (l : List TB) : (flat4 l).length = l.length * 4 := by
  induction l with
  | nil => rfl
  | cons x l ih => simp only [flat4, List.flatMap_cons, List.length_append] at *; rw [ih]; simp [enc4]; omega
theorem flat4_append (l m : List TB) : flat4 (l ++ m) = flat4 l ++ flat4 m := by simp [flat4]
theorem flat4_get (l : List TB) (i c : Nat) (hi : i < l.length) (hc : c < 4) : (flat4 l)[i * 4 + c]? = (enc4 l[i].t)[c]? := by
  induction l generalizing i with
  | nil => cases hi
  | cons x l ih =>
    have e : flat4 (x :: l) = enc4 x.t ++ flat4 l := rfl
    rw [e]
    cases i with
    | zero => rw [List.getElem?_append_left (by simp [enc4]; omega)]; simp
    | succ i =>
      rw [List.getElem?_append_right (by simp [enc4]; omega)]
      have : (i + 1) * 4 + c - (enc4 x.t).length = i * 4 + c := by simp [enc4]; omega
      rw [this, ih i (by simpa using hi)]
      rfl
theorem flat4_one (l : List TB) : ∀ u ∈ flat4 l, u.oneCell' = true := by
  intro u hu
  obtain ⟨x, _, hx⟩ := List.mem_flatMap.1 hu
  simp [enc4] at hx
  rcases hx with rfl | rfl | rfl | rfl <;> rfl
theorem flat4_take (l : List TB) (i : Nat) : flat4 (l.take i) = (flat4 l).take (i * 4) := by
  induction l generalizing i with
  | nil => simp [flat4]
  | cons x l ih =>
    cases i with
    | zero => simp [flat4]
    | succ i =>
      have e : flat4 (x :: l) = enc4 x.t ++ flat4 l := rfl
      have e2 : flat4 (x :: l.take i) = enc4 x.t ++ flat4 (l.take i) := rfl
      rw [List.take_succ_cons, e, e2, ih, show (i + 1) * 4 = (enc4 x.t).length + i * 4 by simp [enc4]; omega, List.take_length_add_append]
theorem flat4_drop (l : List TB) (i : Nat) : flat4 (l.drop i) = (flat4 l).drop (i * 4) := by
  induction l generalizing i with
  | nil => simp [flat4]
  | cons x l ih =>
    cases i with
    | zero => simp
    | succ i =>
      have e : flat4 (x :: l) = enc4 x.t ++ flat4 l := rfl
      rw [List.drop_succ_cons, e, ih, show (i + 1) * 4 = (enc4 x.t).length + i * 4 by simp [enc4]; omega, List.drop_length_add_append]

/-- Terms behind an address. -/
def TRow (w : World) (a : Option Addr) (l : List TB) : Prop := l = [] ∨ ∃ b off, a = some ⟨b, off, none⟩ ∧ b < w.heap.size ∧ ∀ j u, (flat4 l)[j]? = some u → w.cell? ⟨b, off + j, none⟩ = some u
theorem TRow.below {w w' : World} {a : Option Addr} {l : List TB} (h : TRow w a l) (hb : Below w.heap.size w w') : TRow w' a l := by
  rcases h with h | ⟨b, off, ha, hl, hc⟩
  · exact .inl h
  · exact .inr ⟨b, off, ha, Nat.lt_of_lt_of_le hl hb.size, fun j u hu => (hb.cell (p := ⟨b, off + j, none⟩) hl).trans (hc j u hu)⟩
theorem TRow.at {w : World} {b off : Nat} {l : List TB} (hc : ∀ j u, (flat4 l)[j]? = some u → w.cell? ⟨b, off + j, none⟩ = some u) (i : Nat) (hi : i < l.length) :
    w.cell? ⟨b, off + i * 4, none⟩ = some (.int .i64 l[i].t.k) ∧ w.cell? ⟨b, off + i * 4 + 1, none⟩ = some (.slice l[i].t.a l[i].t.len l[i].t.cap) ∧ w.cell? ⟨b, off + i * 4 + 2, none⟩ = some (.int .i64 l[i].t.n) ∧ w.cell? ⟨b, off + i * 4 + 3, none⟩ = some (.int .i64 l[i].t.s) := by
  refine ⟨hc (i * 4 + 0) _ ?_, ?_, ?_, ?_⟩
  · rw [flat4_get l i 0 hi (by omega)]; rfl
  · rw [Nat.add_assoc]; exact hc _ _ (by rw [flat4_get l i 1 hi (by omega)]; rfl)
  · rw [Nat.add_assoc]; exact hc _ _ (by rw [flat4_get l i 2 hi (by omega)]; rfl)
  · rw [Nat.add_assoc]; exact hc _ _ (by rw [flat4_get l i 3 hi (by omega)]; rfl)
/-- Their texts. -/
def TTxt (w : World) (l : List TB) : Prop := ∀ x ∈ l, Bs w x.t.a x.t.len x.b
theorem TTxt.below {w w' : World} {l : List TB} (h : TTxt w l) (hb : Below w.heap.size w w') : TTxt w' l := fun x hx => (h x hx).below hb

/-- A row of terms of the call's own, or none as yet. -/
def OwnTR (w : World) (B : Nat) (v : Value) (l : List TB) : Prop := w.ownsRow B 52 4 v l.length (flat4 l) ∧ ∀ g, v.ownBlock = some g → B ≤ g ∧ g < w.heap.size
theorem OwnTR.nil (w : World) (B : Nat) : OwnTR w B (.slice none 0 0) [] := ⟨World.ownsRow_nil _ _ _ _, fun g h => by cases h⟩
theorem OwnTR.below {w w' : World} {B : Nat} {v : Value} {l : List TB} (h : OwnTR w B v l) (hb : Below w.heap.size w w') : OwnTR w' B v l := by
  obtain ⟨⟨h1, h2⟩, hl⟩ := h
  refine ⟨⟨h1, ?_⟩, fun g hg => ⟨(hl g hg).1, Nat.lt_of_lt_of_le (hl g hg).2 hb.size⟩⟩
  rcases h2 with h2 | ⟨g', cap', cur, hv, hB, hh, r⟩
  · exact .inl h2
  · refine .inr ⟨g', cap', cur, hv, hB, ?_, r⟩
    have := (hl g' (by rw [hv]; rfl)).2
    rw [hb.block g' this]
    exact hh
theorem OwnTR.form {w : World} {B : Nat} {v : Value} {l : List TB} (h : OwnTR w B v l) : ∃ a cap, v = .slice a l.length cap ∧ TRow w a l ∧ l.length ≤ cap ∧ (a = none → l = [] ∧ cap = 0) ∧ ∀ x, a = some x → ∃ g, x = ⟨g, 0, none⟩ ∧ B ≤ g ∧ g < w.heap.size := by
  rcases h.1.2 with ⟨rfl, h0⟩ | ⟨g, cap, cur, rfl, hB, hh, hle, _, hsz, htk⟩
  · have := List.eq_nil_of_length_eq_zero h0
    subst this
    exact ⟨none, 0, rfl, .inl rfl, by simp, fun _ => ⟨rfl, rfl⟩, fun x hx => by cases hx⟩
  · have hlt := (h.2 g rfl).2
    refine ⟨some ⟨g, 0, none⟩, cap, rfl, .inr ⟨g, 0, rfl, hlt, fun j u hu => ?_⟩, hle, fun hx => (by cases hx), fun x hx => by cases hx; exact ⟨g, rfl, hB, hlt⟩⟩
    rw [Nat.zero_add]
    have hj : j < l.length * 4 := by
      apply Classical.byContradiction
      intro hn
      rw [List.getElem?_eq_none (by rw [flat4_len]; omega)] at hu
      cases hu
    rw [← htk, List.getElem?_take, if_pos hj] at hu
    simp only [World.cell?, hh]
    simpa using hu

theorem Tryz.info52 : (Tryz.prog.info? 52).map (fun i => (i.zero, i.size, i.bytes)) = some (some (.agg #[.int .i64 0, .slice none 0 0, .int .i64 0, .int .i64 0]), 4, 48) := by kernel_rfl

/-- append of terms to a row of the call's own. -/
theorem appT {ops : Array Oper} {rest : List Oper} {o : Oper} {a : Act} {Q : Exit → Act → World → Prop} {w : World} (hgd : o.guard = none) (s x : Operand)
    (ho : o.op = .call { callee := .builtin .append, args := #[s, x], argTypes := #[26, 26] })
    (B : Nat) (v : Value) (us : List TB) (hs : a.eval s = v) (HO : Hid (OwnTR w B v us))
    (ad : Addr) (m c : Nat) (bs : List TB) (hx : a.eval x = .slice (some ad) m c) (hl : bs.length = m) (HN : Hid (∀ j u, (flat4 bs)[j]? = some u → w.cell? (ad.add j) = some u))
    (hm : 0 < m) (N : Nat) (hN : us.length + m = N) (zs : List TB) (hz : us ++ bs = zs) (hle : N ≤ 1000000000) (hB : B ≤ w.heap.size)
    (h : ∀ g cap w', Hid (OwnTR w' B (.slice (some ⟨g, 0, none⟩) N cap) zs) → Hid (w.grownBy w' v.ownBlock) → Hid (v.ownBlock = some g ∨ g = w.heap.size) → Hid (Below B w w') → wpList Tryz.prog ops Q rest (a.put o.dst (.slice (some ⟨g, 0, none⟩) N cap)) w') :
    wpList Tryz.prog ops Q (o :: rest) a w := by
  obtain ⟨i0, hi0, hzz⟩ := Option.map_eq_some_iff.1 Tryz.info52
  simp only [Prod.mk.injEq] at hzz
  obtain ⟨hi2, hi1, hi3⟩ := hzz
  subst hN hz
  refine wpList_append_lies _ hgd s x 26 ho B 52 i0 (.agg #[.int .i64 0, .slice none 0 0, .int .i64 0, .int .i64 0]) 4 48 Tryz.underlying26 hi0 hi2 hi1 hi3 rfl (by omega) v us.length (flat4 us) hs HO.out.1 ad m c (flat4 bs) hx (by rw [flat4_len, hl]) HN.out (flat4_one bs) hm (by unfold maxLen; omega) (by omega) hB _ rfl ?_
  intro g cap w' hown hgr hat hlt
  have hown' : w'.ownsRow B 52 4 (.slice (some ⟨g, 0, none⟩) (us.length + m) cap) (us ++ bs).length (flat4 (us ++ bs)) := by
    rw [flat4_append, List.length_append, hl]
    exact hown
  refine h g cap w' ⟨hown', fun g' hg' => ?_⟩ hgr hat ?_
  · have : g = g' := by simpa [Value.ownBlock] using hg'
    subst this
    rcases hown.2 with ⟨hv, _⟩ | ⟨g0, c0, cur, hv, hb, _⟩
    · cases hv
    · cases hv; exact ⟨hb, hlt⟩
  · rcases HO.out.1.2 with ⟨hv, _⟩ | ⟨g0, c0, cur, hv, hb, _⟩
    · subst hv
      exact ⟨hgr.os, hgr.tape, hgr.output, hgr.size, fun b hb => hgr.block b (by omega) (by simp [Value.ownBlock])⟩
    · subst hv
      exact ⟨hgr.os, hgr.tape, hgr.output, hgr.size, fun b hb' => hgr.block b (by omega) (by intro e; have : b = g0 := (by simpa [Value.ownBlock] using e); omega)⟩
/-- The cells of some of them. -/
theorem TRow.news {w : World} {b off : Nat} {l : List TB} (hc : ∀ j u, (flat4 l)[j]? = some u → w.cell? ⟨b, off + j, none⟩ = some u) (i m : Nat) :
    ∀ j u, (flat4 ((l.drop i).take m))[j]? = some u → w.cell? ((⟨b, off + i * 4, none⟩ : Addr).add j) = some u := by
  intro j u hu
  have ea : (⟨b, off + i * 4, none⟩ : Addr).add j = ⟨b, off + (i * 4 + j), none⟩ := by
    by_cases h0 : j = 0 <;> simp [Addr.add, h0, Nat.add_assoc]
  rw [ea]
  refine hc _ _ ?_
  rw [flat4_take, flat4_drop, List.getElem?_take] at hu
  split at hu
  · rw [List.getElem?_drop] at hu; exact hu
  · cases hu
end Go.Proofs.YtdcaicoomldmgaaGreatDoor
