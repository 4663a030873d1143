/- Texts put together: TriA TriB -/
import Derived.Test.YtdcaicoomldmgaaGreatDoorMk03
import Derived.Test.YtdcaicoomldmgaaGreatDoorMk05
/- TriA -/
namespace Go.Proofs.YtdcaicoomldmgaaGreatDoor
open Go.RowKit Go.Deep

/-- A term's parts: kind, text's place, length and room, number, scale. -/
structure Tm where
  k : Int
  a : Option Addr
  len : Nat
  cap : Nat
  n : Int
  s : Int
def Tm0 : Tm := ⟨0, none, 0, 0, 0, 0⟩
/-- A term whose text lies in a block of its own. -/
def Tm.own (t : Tm) (g : Nat) : Tm := ⟨t.k, some ⟨g, 0, none⟩, t.len, t.len, t.n, t.s⟩
/-- Its numbers are of 64 bits. -/
def Tm.fits (t : Tm) : Prop := -9223372036854775808 ≤ t.n ∧ t.n ≤ 9223372036854775807 ∧ -9223372036854775808 ≤ t.s ∧ t.s ≤ 9223372036854775807
/-- Three terms in a row from place o on in block b. -/
def At12 (w : World) (b : Nat) (t u v : Tm) : Prop :=
  b < w.heap.size ∧
    (w.cell? ⟨b, 0, none⟩ = some (.int .i64 t.k) ∧ w.cell? ⟨b, 1, none⟩ = some (.slice t.a t.len t.cap) ∧ w.cell? ⟨b, 2, none⟩ = some (.int .i64 t.n) ∧ w.cell? ⟨b, 3, none⟩ = some (.int .i64 t.s)) ∧
    (w.cell? ⟨b, 4, none⟩ = some (.int .i64 u.k) ∧ w.cell? ⟨b, 5, none⟩ = some (.slice u.a u.len u.cap) ∧ w.cell? ⟨b, 6, none⟩ = some (.int .i64 u.n) ∧ w.cell? ⟨b, 7, none⟩ = some (.int .i64 u.s)) ∧
    (w.cell? ⟨b, 8, none⟩ = some (.int .i64 v.k) ∧ w.cell? ⟨b, 9, none⟩ = some (.slice v.a v.len v.cap) ∧ w.cell? ⟨b, 10, none⟩ = some (.int .i64 v.n) ∧ w.cell? ⟨b, 11, none⟩ = some (.int .i64 v.s))
theorem At12.below {w w' : World} {b : Nat} {t u v : Tm} (h : At12 w b t u v) (hb : Below w.heap.size w w') : At12 w' b t u v := by
  obtain ⟨hl, h⟩ := h
  have e : ∀ i, w'.cell? ⟨b, i, none⟩ = w.cell? ⟨b, i, none⟩ := fun i => hb.cell (p := ⟨b, i, none⟩) hl
  refine ⟨Nat.lt_of_lt_of_le hl hb.size, ?_⟩
  simp only [e]
  exact h
/-- .. and they may be written. -/
def Own12 (w : World) (b : Nat) (t u v : Tm) : Prop := At12 w b t u v ∧ ∀ i, i < 12 → w.frozen? ⟨b, i, none⟩ = false
theorem Own12.below {w w' : World} {b : Nat} {t u v : Tm} (h : Own12 w b t u v) (hb : Below w.heap.size w w') : Own12 w' b t u v :=
  ⟨h.1.below hb, fun i hi => (hb.frozen (p := ⟨b, i, none⟩) h.1.1).trans (h.2 i hi)⟩
def cells12 (t u v : Tm) : Array Value := #[.int .i64 t.k, .slice t.a t.len t.cap, .int .i64 t.n, .int .i64 t.s, .int .i64 u.k, .slice u.a u.len u.cap, .int .i64 u.n, .int .i64 u.s, .int .i64 v.k, .slice v.a v.len v.cap, .int .i64 v.n, .int .i64 v.s]
theorem Own12.at (w : World) (b : Nat) (t u v : Tm) (T : TypeId) (e : b = w.heap.size) : Own12 (w.alloc (.cells (cells12 t u v) T)) b t u v := by
  subst e
  refine ⟨⟨by simp, ⟨?_, ?_, ?_, ?_⟩, ⟨?_, ?_, ?_, ?_⟩, ⟨?_, ?_, ?_, ?_⟩⟩, fun i hi => ?_⟩
  all_goals simp [go_sem, cells12]
theorem frozen_out {w : World} {b : Nat} (h : ∀ i, i < 12 → w.frozen? ⟨b, i, none⟩ = false) : w.frozen? ⟨b, 0, none⟩ = false ∧ w.frozen? ⟨b, 1, none⟩ = false ∧ w.frozen? ⟨b, 2, none⟩ = false ∧ w.frozen? ⟨b, 3, none⟩ = false ∧ w.frozen? ⟨b, 4, none⟩ = false ∧ w.frozen? ⟨b, 5, none⟩ = false ∧ w.frozen? ⟨b, 6, none⟩ = false ∧ w.frozen? ⟨b, 7, none⟩ = false ∧ w.frozen? ⟨b, 8, none⟩ = false ∧ w.frozen? ⟨b, 9, none⟩ = false ∧ w.frozen? ⟨b, 10, none⟩ = false ∧ w.frozen? ⟨b, 11, none⟩ = false :=
  ⟨h 0 (by omega), h 1 (by omega), h 2 (by omega), h 3 (by omega), h 4 (by omega), h 5 (by omega), h 6 (by omega), h 7 (by omega), h 8 (by omega), h 9 (by omega), h 10 (by omega), h 11 (by omega)⟩
/-- A term's four cells written at places i, i+1, i+2, i+3. -/
def put4 (w : World) (b i0 i1 i2 i3 : Nat) (t : Tm) : World := (((w.setCell ⟨b, i0, none⟩ (.int .i64 t.k)).setCell ⟨b, i1, none⟩ (.slice t.a t.len t.cap)).setCell ⟨b, i2, none⟩ (.int .i64 t.n)).setCell ⟨b, i3, none⟩ (.int .i64 t.s)
theorem Own12.put0 {w : World} {b : Nat} {t u v : Tm} (h : Own12 w b t u v) (x : Tm) : Own12 (put4 w b 0 1 2 3 x) b x u v := by
  obtain ⟨⟨hl, ⟨a0, a1, a2, a3⟩, ⟨b0, b1, b2, b3⟩, ⟨c0, c1, c2, c3⟩⟩, hf⟩ := h
  refine ⟨⟨by simpa [put4] using hl, ⟨?_, ?_, ?_, ?_⟩, ⟨?_, ?_, ?_, ?_⟩, ⟨?_, ?_, ?_, ?_⟩⟩, fun i hi => ?_⟩
  all_goals simp [put4, go_sem, *]
theorem Own12.put1 {w : World} {b : Nat} {t u v : Tm} (h : Own12 w b t u v) (x : Tm) : Own12 (put4 w b 4 5 6 7 x) b t x v := by
  obtain ⟨⟨hl, ⟨a0, a1, a2, a3⟩, ⟨b0, b1, b2, b3⟩, ⟨c0, c1, c2, c3⟩⟩, hf⟩ := h
  refine ⟨⟨by simpa [put4] using hl, ⟨?_, ?_, ?_, ?_⟩, ⟨?_, ?_, ?_, ?_⟩, ⟨?_, ?_, ?_, ?_⟩⟩, fun i hi => ?_⟩
  all_goals simp [put4, go_sem, *]
theorem Own12.put2 {w : World} {b : Nat} {t u v : Tm} (h : Own12 w b t u v) (x : Tm) : Own12 (put4 w b 8 9 10 11 x) b t u x := by
  obtain ⟨⟨hl, ⟨a0, a1, a2, a3⟩, ⟨b0, b1, b2, b3⟩, ⟨c0, c1, c2, c3⟩⟩, hf⟩ := h
  refine ⟨⟨by simpa [put4] using hl, ⟨?_, ?_, ?_, ?_⟩, ⟨?_, ?_, ?_, ?_⟩, ⟨?_, ?_, ?_, ?_⟩⟩, fun i hi => ?_⟩
  all_goals simp [put4, go_sem, *]
theorem put4_below {B : Nat} {w0 w : World} {b i0 i1 i2 i3 : Nat} {x : Tm} (h : Below B w0 w) (hb : B ≤ b) : Below B w0 (put4 w b i0 i1 i2 i3 x) :=
  (((h.setCell hb _).setCell hb _).setCell hb _).setCell hb _
theorem put4_size {w : World} {b i0 i1 i2 i3 : Nat} {x : Tm} : (put4 w b i0 i1 i2 i3 x).heap.size = w.heap.size := by simp [put4]
/-- Another block of three is not touched. -/
theorem Own12.other {w : World} {b c i0 i1 i2 i3 : Nat} {t u v x : Tm} (h : Own12 w b t u v) (hne : b ≠ c) : Own12 (put4 w c i0 i1 i2 i3 x) b t u v := by
  obtain ⟨⟨hl, h⟩, hf⟩ := h
  have e : ∀ i, (put4 w c i0 i1 i2 i3 x).cell? ⟨b, i, none⟩ = w.cell? ⟨b, i, none⟩ := fun i => by
    unfold put4
    rw [World.cell?_of_block (Below.heap_setCell _ _ _ _ (by exact hne)), World.cell?_of_block (Below.heap_setCell _ _ _ _ (by exact hne)), World.cell?_of_block (Below.heap_setCell _ _ _ _ (by exact hne)), World.cell?_of_block (Below.heap_setCell _ _ _ _ (by exact hne))]
  refine ⟨⟨by rw [put4_size]; exact hl, ?_⟩, fun i hi => ?_⟩
  · simp only [e]
    exact h
  · simp [put4, hf i hi]
theorem Bs.put {w : World} {g len : Nat} {bs : List Int} {c i0 i1 i2 i3 : Nat} {x : Tm} (h : Bs w (some ⟨g, 0, none⟩) len bs) (hne : g ≠ c) : Bs (put4 w c i0 i1 i2 i3 x) (some ⟨g, 0, none⟩) len bs := by
  obtain ⟨h1, h2, h3, h4⟩ := h
  refine ⟨h1, h2, h3, ?_⟩
  rcases h4 with h4 | ⟨b', off, ha, hlt, hc⟩
  · exact .inl h4
  · cases ha
    refine .inr ⟨g, 0, rfl, by rw [put4_size]; exact hlt, fun i hi => ?_⟩
    unfold put4
    rw [World.cell?_of_block (Below.heap_setCell _ _ _ _ (by exact hne)), World.cell?_of_block (Below.heap_setCell _ _ _ _ (by exact hne)), World.cell?_of_block (Below.heap_setCell _ _ _ _ (by exact hne)), World.cell?_of_block (Below.heap_setCell _ _ _ _ (by exact hne))]
    exact hc i hi
theorem OwnT.put {w : World} {g len : Nat} {bs : List Int} {c i0 i1 i2 i3 : Nat} {x : Tm} (h : OwnT w g len bs) (hne : g ≠ c) : OwnT (put4 w c i0 i1 i2 i3 x) g len bs := by
  obtain ⟨h1, h2, h3, h4⟩ := h
  have e : ∀ i, (put4 w c i0 i1 i2 i3 x).cell? ⟨g, i, none⟩ = w.cell? ⟨g, i, none⟩ := fun i => by
    unfold put4
    rw [World.cell?_of_block (Below.heap_setCell _ _ _ _ (by exact hne)), World.cell?_of_block (Below.heap_setCell _ _ _ _ (by exact hne)), World.cell?_of_block (Below.heap_setCell _ _ _ _ (by exact hne)), World.cell?_of_block (Below.heap_setCell _ _ _ _ (by exact hne))]
  exact ⟨h1.put hne, by rw [put4_size]; exact h2, fun i hi => by rw [e i]; exact h3 i hi, fun i hi => by simp [put4, h4 i hi]⟩
end Go.Proofs.YtdcaicoomldmgaaGreatDoor

/- TriB -/
namespace Go.Proofs.YtdcaicoomldmgaaGreatDoor
open Go.RowKit Go.Deep

/-- What is left behind three terms. -/
def left3 (l : Int) (t u v : Tm) : Int := if l < t.len then -1 else if l - t.len < u.len then -1 else if l - t.len - u.len < v.len then -1 else l - t.len - u.len - v.len

theorem leftOf_neg' {l : Int} {len : Nat} (h : l < len) : leftOf l len = -1 := by unfold leftOf; rw [if_pos h]
theorem leftOf_pos' {l : Int} {len : Nat} (h : ¬ l < len) : leftOf l len = l - len := by unfold leftOf; rw [if_neg h]

theorem szTriple_any (t u v : Tm) (l : Int) (w : World) (h1 : 0 ≤ l) (h2 : l ≤ 1048576) (ht : t.len ≤ 9223372036854775807) (hu : u.len ≤ 9223372036854775807) (hv : v.len ≤ 9223372036854775807) :
    Calls Tryz.prog 72 #[.agg #[.int .i64 t.k, .slice t.a t.len t.cap, .int .i64 t.n, .int .i64 t.s, .int .i64 u.k, .slice u.a u.len u.cap, .int .i64 u.n, .int .i64 u.s, .int .i64 v.k, .slice v.a v.len v.cap, .int .i64 v.n, .int .i64 v.s], .int .i64 l] w fun e w' => e = .returned (.int .i64 (left3 l t u v)) ∧ Below w.heap.size w w' := by
  by_cases c1 : l < t.len
  · have e1 : left3 l t u v = -1 := by unfold left3; rw [if_pos c1]
    rw [e1]
    have z1 := leftOf_neg' c1
    go_enter Tryz.func72, Tryz.ntmps72
    go_wp2_with fail
    refine (szTerm_any t.k t.n t.s t.a t.len t.cap l _ h1 h2 ht).mono ?_
    rw [z1]
    rintro e w1 ⟨rfl, hb1⟩
    go_wp2
    go_ret
    exact ⟨rfl, bl_trans (bl_a _) hb1⟩
  have z1 := leftOf_pos' c1
  by_cases c2 : l - t.len < u.len
  · have e1 : left3 l t u v = -1 := by unfold left3; rw [if_neg c1, if_pos c2]
    rw [e1]
    have z2 := leftOf_neg' c2
    go_enter Tryz.func72, Tryz.ntmps72
    go_wp2_with fail
    refine (szTerm_any t.k t.n t.s t.a t.len t.cap l _ h1 h2 ht).mono ?_
    rw [z1]
    rintro e w1 ⟨rfl, hb1⟩
    have hA := (Own12.at w _ t u v 107 rfl).1.below hb1
    have hw1 := bl_trans (bl_a _) hb1
    clear hb1
    obtain ⟨_, ⟨a0, a1, a2, a3⟩, ⟨b0, b1, b2, b3⟩, ⟨d0, d1, d2, d3⟩⟩ := id hA
    go_wp2_with fail
    refine (szTerm_any u.k u.n u.s u.a u.len u.cap (l - t.len) _ (by omega) (by omega) hu).mono ?_
    rw [z2]
    rintro e w2 ⟨rfl, hb2⟩
    go_wp2
    go_ret
    exact ⟨rfl, bl_trans hw1 hb2⟩
  have z2 := leftOf_pos' c2
  have z3 : leftOf (l - t.len - u.len) v.len = left3 l t u v := by unfold left3 leftOf; rw [if_neg c1, if_neg c2]
  generalize left3 l t u v = r at *
  go_enter Tryz.func72, Tryz.ntmps72
  go_wp2_with fail
  refine (szTerm_any t.k t.n t.s t.a t.len t.cap l _ h1 h2 ht).mono ?_
  rw [z1]
  rintro e w1 ⟨rfl, hb1⟩
  have hA := (Own12.at w _ t u v 107 rfl).1.below hb1
  have hw1 := bl_trans (bl_a _) hb1
  clear hb1
  obtain ⟨_, ⟨a0, a1, a2, a3⟩, ⟨b0, b1, b2, b3⟩, ⟨d0, d1, d2, d3⟩⟩ := id hA
  go_wp2_with fail
  refine (szTerm_any u.k u.n u.s u.a u.len u.cap (l - t.len) _ (by omega) (by omega) hu).mono ?_
  rw [z2]
  rintro e w2 ⟨rfl, hb2⟩
  have hA := hA.below hb2
  have hw2 := bl_trans hw1 hb2
  clear hb2 hw1 a0 a1 a2 a3 b0 b1 b2 b3 d0 d1 d2 d3
  obtain ⟨_, ⟨a0, a1, a2, a3⟩, ⟨b0, b1, b2, b3⟩, ⟨d0, d1, d2, d3⟩⟩ := id hA
  go_wp2_with fail
  refine (szTerm_any v.k v.n v.s v.a v.len v.cap (l - t.len - u.len) _ (by omega) (by omega) hv).mono ?_
  rw [z3]
  rintro e w3 ⟨rfl, hb3⟩
  by_cases hr : r < 0
  · have hr' : r = -1 := by
      rw [← z3] at hr ⊢
      unfold leftOf at hr ⊢
      split <;> rename_i h
      · rfl
      · rw [if_neg h] at hr; omega
    subst hr'
    go_wp2
    go_ret
    exact ⟨rfl, bl_trans hw2 hb3⟩
  · clear z3
    go_wp2
    go_ret
    exact ⟨rfl, bl_trans hw2 hb3⟩

theorem toTriple_new (t u v : Tm) (bt bu bv : List Int) (w : World) (hT : Bs w t.a t.len bt) (hU : Bs w u.a u.len bu) (hV : Bs w v.a v.len bv) :
    Calls Tryz.prog 78 #[.agg #[.int .i64 t.k, .slice t.a t.len t.cap, .int .i64 t.n, .int .i64 t.s, .int .i64 u.k, .slice u.a u.len u.cap, .int .i64 u.n, .int .i64 u.s, .int .i64 v.k, .slice v.a v.len v.cap, .int .i64 v.n, .int .i64 v.s]] w fun e w' =>
      ∃ g1 g2 g3, e = .returned (.agg #[.int .i64 t.k, .slice (some ⟨g1, 0, none⟩) t.len t.len, .int .i64 t.n, .int .i64 t.s, .int .i64 u.k, .slice (some ⟨g2, 0, none⟩) u.len u.len, .int .i64 u.n, .int .i64 u.s, .int .i64 v.k, .slice (some ⟨g3, 0, none⟩) v.len v.len, .int .i64 v.n, .int .i64 v.s]) ∧ OwnT w' g1 t.len bt ∧ OwnT w' g2 u.len bu ∧ OwnT w' g3 v.len bv ∧ w.heap.size ≤ g1 ∧ w.heap.size ≤ g2 ∧ w.heap.size ≤ g3 ∧ Below w.heap.size w w' := by
  go_enter Tryz.func78, Tryz.ntmps78
  go_wp2_with fail
  refine (toTerm_new t.k t.n t.s t.a t.len t.cap bt _ (hT.below (bl_alloc (bl_alloc (bl_a _) _) _))).mono ?_
  rintro e w1 ⟨g1, rfl, hG1, hl1, hb1⟩
  simp at hl1
  have hs1 := hb1.size
  simp at hs1
  have hA := (Own12.at w w.heap.size t u v 107 rfl).below (bl_trans (bl_alloc (bl_a _) _) hb1)
  have hR := (Own12.at (w.alloc _) (w.heap.size + 1) Tm0 Tm0 Tm0 110 (by simp)).below (bl_trans (bl_a _) hb1)
  have hO := (Own12.at ((w.alloc _).alloc _) (w.heap.size + 1 + 1) Tm0 Tm0 Tm0 110 (by simp)).below hb1
  have hw1 := bl_trans (bl_alloc (bl_alloc (bl_a _) _) _) hb1
  clear hb1
  obtain ⟨⟨_, ⟨x0, x1, x2, x3⟩, ⟨x4, x5, x6, x7⟩, ⟨x8, x9, xa, xb⟩⟩, xf⟩ := id hA
  obtain ⟨xf0, xf1, xf2, xf3, xf4, xf5, xf6, xf7, xf8, xf9, xfa, xfb⟩ := frozen_out xf
  obtain ⟨⟨_, ⟨y0, y1, y2, y3⟩, ⟨y4, y5, y6, y7⟩, ⟨y8, y9, ya, yb⟩⟩, yf⟩ := id hO
  obtain ⟨yf0, yf1, yf2, yf3, yf4, yf5, yf6, yf7, yf8, yf9, yfa, yfb⟩ := frozen_out yf
  go_wp2_with fail
  clear x0 x1 x2 x3 x4 x5 x6 x7 x8 x9 xa xb xf xf0 xf1 xf2 xf3 xf4 xf5 xf6 xf7 xf8 xf9 xfa xfb
  clear y0 y1 y2 y3 y4 y5 y6 y7 y8 y9 ya yb yf yf0 yf1 yf2 yf3 yf4 yf5 yf6 yf7 yf8 yf9 yfa yfb
  replace hA := hA.other (i0 := 0) (i1 := 1) (i2 := 2) (i3 := 3) (x := (t.own g1)) (show w.heap.size ≠ (w.heap.size + 1 + 1) by omega)
  replace hR := hR.other (i0 := 0) (i1 := 1) (i2 := 2) (i3 := 3) (x := (t.own g1)) (show w.heap.size + 1 ≠ (w.heap.size + 1 + 1) by omega)
  replace hO := hO.put0 (t.own g1)
  replace hG1 := hG1.put (i0 := 0) (i1 := 1) (i2 := 2) (i3 := 3) (x := (t.own g1)) (show g1 ≠ (w.heap.size + 1 + 1) by omega)
  replace hw1 := put4_below (i0 := 0) (i1 := 1) (i2 := 2) (i3 := 3) (x := (t.own g1)) hw1 (show w.heap.size ≤ (w.heap.size + 1 + 1) by omega)
  have hz0 := put4_size (w := w1) (b := (w.heap.size + 1 + 1)) (i0 := 0) (i1 := 1) (i2 := 2) (i3 := 3) (x := (t.own g1))
  refine (toTerm_new u.k u.n u.s u.a u.len u.cap bu (put4 w1 (w.heap.size + 1 + 1) 0 1 2 3 (t.own g1)) (hU.below hw1)).mono ?_
  generalize put4 w1 (w.heap.size + 1 + 1) 0 1 2 3 (t.own g1) = w1' at *
  rintro e w2 ⟨g2, rfl, hG2, hl2, hb2⟩
  have hs2 := hb2.size
  replace hA := hA.below hb2
  replace hR := hR.below hb2
  replace hO := hO.below hb2
  replace hw1 := bl_trans hw1 hb2
  replace hG1 := hG1.below hb2
  clear hb2
  obtain ⟨⟨_, ⟨x0, x1, x2, x3⟩, ⟨x4, x5, x6, x7⟩, ⟨x8, x9, xa, xb⟩⟩, xf⟩ := id hA
  obtain ⟨xf0, xf1, xf2, xf3, xf4, xf5, xf6, xf7, xf8, xf9, xfa, xfb⟩ := frozen_out xf
  obtain ⟨⟨_, ⟨y0, y1, y2, y3⟩, ⟨y4, y5, y6, y7⟩, ⟨y8, y9, ya, yb⟩⟩, yf⟩ := id hO
  obtain ⟨yf0, yf1, yf2, yf3, yf4, yf5, yf6, yf7, yf8, yf9, yfa, yfb⟩ := frozen_out yf
  go_wp2_with fail
  clear x0 x1 x2 x3 x4 x5 x6 x7 x8 x9 xa xb xf xf0 xf1 xf2 xf3 xf4 xf5 xf6 xf7 xf8 xf9 xfa xfb
  clear y0 y1 y2 y3 y4 y5 y6 y7 y8 y9 ya yb yf yf0 yf1 yf2 yf3 yf4 yf5 yf6 yf7 yf8 yf9 yfa yfb
  replace hA := hA.other (i0 := 4) (i1 := 5) (i2 := 6) (i3 := 7) (x := (u.own g2)) (show w.heap.size ≠ (w.heap.size + 1 + 1) by omega)
  replace hR := hR.other (i0 := 4) (i1 := 5) (i2 := 6) (i3 := 7) (x := (u.own g2)) (show w.heap.size + 1 ≠ (w.heap.size + 1 + 1) by omega)
  replace hO := hO.put1 (u.own g2)
  replace hG1 := hG1.put (i0 := 4) (i1 := 5) (i2 := 6) (i3 := 7) (x := (u.own g2)) (show g1 ≠ (w.heap.size + 1 + 1) by omega)
  replace hG2 := hG2.put (i0 := 4) (i1 := 5) (i2 := 6) (i3 := 7) (x := (u.own g2)) (show g2 ≠ (w.heap.size + 1 + 1) by omega)
  replace hw1 := put4_below (i0 := 4) (i1 := 5) (i2 := 6) (i3 := 7) (x := (u.own g2)) hw1 (show w.heap.size ≤ (w.heap.size + 1 + 1) by omega)
  have hz1 := put4_size (w := w2) (b := (w.heap.size + 1 + 1)) (i0 := 4) (i1 := 5) (i2 := 6) (i3 := 7) (x := (u.own g2))
  refine (toTerm_new v.k v.n v.s v.a v.len v.cap bv (put4 w2 (w.heap.size + 1 + 1) 4 5 6 7 (u.own g2)) (hV.below hw1)).mono ?_
  generalize put4 w2 (w.heap.size + 1 + 1) 4 5 6 7 (u.own g2) = w2' at *
  rintro e w3 ⟨g3, rfl, hG3, hl3, hb3⟩
  have hs3 := hb3.size
  replace hA := hA.below hb3
  replace hR := hR.below hb3
  replace hO := hO.below hb3
  replace hw1 := bl_trans hw1 hb3
  replace hG1 := hG1.below hb3
  replace hG2 := hG2.below hb3
  clear hb3
  obtain ⟨⟨_, ⟨x0, x1, x2, x3⟩, ⟨x4, x5, x6, x7⟩, ⟨x8, x9, xa, xb⟩⟩, xf⟩ := id hR
  obtain ⟨xf0, xf1, xf2, xf3, xf4, xf5, xf6, xf7, xf8, xf9, xfa, xfb⟩ := frozen_out xf
  obtain ⟨⟨_, ⟨y0, y1, y2, y3⟩, ⟨y4, y5, y6, y7⟩, ⟨y8, y9, ya, yb⟩⟩, yf⟩ := id hO
  obtain ⟨yf0, yf1, yf2, yf3, yf4, yf5, yf6, yf7, yf8, yf9, yfa, yfb⟩ := frozen_out yf
  simp only [Tm.own] at y0 y1 y2 y3 y4 y5 y6 y7
  go_wp2
  refine bodyPost_ret (v := .agg #[.int .i64 t.k, .slice (some ⟨g1, 0, none⟩) t.len t.len, .int .i64 t.n, .int .i64 t.s, .int .i64 u.k, .slice (some ⟨g2, 0, none⟩) u.len u.len, .int .i64 u.n, .int .i64 u.s, .int .i64 v.k, .slice (some ⟨g3, 0, none⟩) v.len v.len, .int .i64 v.n, .int .i64 v.s]) (by simp [results, Tryz.results78, go_sem, *]) rfl ⟨g1, g2, g3, rfl, ((((hG1.put (show g1 ≠ (w.heap.size + 1 + 1) by omega)).put (show g1 ≠ (w.heap.size + 1) by omega)).put (show g1 ≠ (w.heap.size + 1) by omega)).put (show g1 ≠ (w.heap.size + 1) by omega) : OwnT (put4 (put4 (put4 (put4 w3 (w.heap.size + 1 + 1) 8 9 10 11 (v.own g3)) (w.heap.size + 1) 0 1 2 3 (t.own g1)) (w.heap.size + 1) 4 5 6 7 (u.own g2)) (w.heap.size + 1) 8 9 10 11 (v.own g3)) _ _ _), ((((hG2.put (show g2 ≠ (w.heap.size + 1 + 1) by omega)).put (show g2 ≠ (w.heap.size + 1) by omega)).put (show g2 ≠ (w.heap.size + 1) by omega)).put (show g2 ≠ (w.heap.size + 1) by omega) : OwnT (put4 (put4 (put4 (put4 w3 (w.heap.size + 1 + 1) 8 9 10 11 (v.own g3)) (w.heap.size + 1) 0 1 2 3 (t.own g1)) (w.heap.size + 1) 4 5 6 7 (u.own g2)) (w.heap.size + 1) 8 9 10 11 (v.own g3)) _ _ _), ((((hG3.put (show g3 ≠ (w.heap.size + 1 + 1) by omega)).put (show g3 ≠ (w.heap.size + 1) by omega)).put (show g3 ≠ (w.heap.size + 1) by omega)).put (show g3 ≠ (w.heap.size + 1) by omega) : OwnT (put4 (put4 (put4 (put4 w3 (w.heap.size + 1 + 1) 8 9 10 11 (v.own g3)) (w.heap.size + 1) 0 1 2 3 (t.own g1)) (w.heap.size + 1) 4 5 6 7 (u.own g2)) (w.heap.size + 1) 8 9 10 11 (v.own g3)) _ _ _), by omega, by omega, by omega, ?_⟩
  exact (put4_below (put4_below (put4_below (put4_below hw1 (show w.heap.size ≤ (w.heap.size + 1 + 1) by omega)) (show w.heap.size ≤ (w.heap.size + 1) by omega)) (show w.heap.size ≤ (w.heap.size + 1) by omega)) (show w.heap.size ≤ (w.heap.size + 1) by omega) : Below _ w (put4 (put4 (put4 (put4 w3 (w.heap.size + 1 + 1) 8 9 10 11 (v.own g3)) (w.heap.size + 1) 0 1 2 3 (t.own g1)) (w.heap.size + 1) 4 5 6 7 (u.own g2)) (w.heap.size + 1) 8 9 10 11 (v.own g3)))

theorem toTriple_any (t u v : Tm) (bt bu bv : List Int) (w : World) (hT : Bs w t.a t.len bt) (hU : Bs w u.a u.len bu) (hV : Bs w v.a v.len bv) :
    Calls Tryz.prog 78 #[.agg #[.int .i64 t.k, .slice t.a t.len t.cap, .int .i64 t.n, .int .i64 t.s, .int .i64 u.k, .slice u.a u.len u.cap, .int .i64 u.n, .int .i64 u.s, .int .i64 v.k, .slice v.a v.len v.cap, .int .i64 v.n, .int .i64 v.s]] w fun e w' =>
      ∃ g1 g2 g3, e = .returned (.agg #[.int .i64 t.k, .slice (some ⟨g1, 0, none⟩) t.len t.len, .int .i64 t.n, .int .i64 t.s, .int .i64 u.k, .slice (some ⟨g2, 0, none⟩) u.len u.len, .int .i64 u.n, .int .i64 u.s, .int .i64 v.k, .slice (some ⟨g3, 0, none⟩) v.len v.len, .int .i64 v.n, .int .i64 v.s]) ∧ Bs w' (some ⟨g1, 0, none⟩) t.len bt ∧ Bs w' (some ⟨g2, 0, none⟩) u.len bu ∧ Bs w' (some ⟨g3, 0, none⟩) v.len bv ∧ Below w.heap.size w w' := by
  refine (toTriple_new t u v bt bu bv w hT hU hV).mono ?_
  rintro e w' ⟨g1, g2, g3, rfl, i1, i2, i3, _, _, _, hb⟩
  exact ⟨g1, g2, g3, rfl, i1.1, i2.1, i3.1, hb⟩
end Go.Proofs.YtdcaicoomldmgaaGreatDoor
