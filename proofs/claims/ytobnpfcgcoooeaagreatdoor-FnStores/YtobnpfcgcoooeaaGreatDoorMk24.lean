/- Texts put together: GdrA GdrB -/
import Derived.Test.YtobnpfcgcoooeaaGreatDoorMk23
import Derived.Test.YtobnpfcgcoooeaaGreatDoorMk02
/- GdrA -/
namespace Go.Proofs.YtobnpfcgcoooeaaGreatDoor
open Go.RowKit Go.Deep
set_option maxRecDepth 100000

/-- The cells of a triple. -/
def e12 (t u v : Tm) : List Value := [.int .i64 t.k, .slice t.a t.len t.cap, .int .i64 t.n, .int .i64 t.s, .int .i64 u.k, .slice u.a u.len u.cap, .int .i64 u.n, .int .i64 u.s, .int .i64 v.k, .slice v.a v.len v.cap, .int .i64 v.n, .int .i64 v.s]
/-- A triple in a block of its own, which may be written. -/
structure B12 (w : World) (b : Nat) (t u v : Tm) : Prop where
  lt : b < w.heap.size
  c : ∀ j x, (e12 t u v)[j]? = some x → w.cell? ⟨b, j, none⟩ = some x
  f : ∀ j, j < 12 → w.frozen? ⟨b, j, none⟩ = false
theorem B12.cells {w : World} {b : Nat} {t u v : Tm} (h : B12 w b t u v) :
    (w.cell? ⟨b, 0, none⟩ = some (.int .i64 t.k) ∧ w.cell? ⟨b, 1, none⟩ = some (.slice t.a t.len t.cap) ∧ w.cell? ⟨b, 2, none⟩ = some (.int .i64 t.n) ∧ w.cell? ⟨b, 3, none⟩ = some (.int .i64 t.s)) ∧
    (w.cell? ⟨b, 4, none⟩ = some (.int .i64 u.k) ∧ w.cell? ⟨b, 5, none⟩ = some (.slice u.a u.len u.cap) ∧ w.cell? ⟨b, 6, none⟩ = some (.int .i64 u.n) ∧ w.cell? ⟨b, 7, none⟩ = some (.int .i64 u.s)) ∧
    (w.cell? ⟨b, 8, none⟩ = some (.int .i64 v.k) ∧ w.cell? ⟨b, 9, none⟩ = some (.slice v.a v.len v.cap) ∧ w.cell? ⟨b, 10, none⟩ = some (.int .i64 v.n) ∧ w.cell? ⟨b, 11, none⟩ = some (.int .i64 v.s)) :=
  ⟨⟨h.c 0 _ rfl, h.c 1 _ rfl, h.c 2 _ rfl, h.c 3 _ rfl⟩, ⟨h.c 4 _ rfl, h.c 5 _ rfl, h.c 6 _ rfl, h.c 7 _ rfl⟩, ⟨h.c 8 _ rfl, h.c 9 _ rfl, h.c 10 _ rfl, h.c 11 _ rfl⟩⟩
theorem B12.past {w w' : World} {g b : Nat} {t u v : Tm} (h : B12 w b t u v) (hb : Past g w w') (hn : b ≠ g) : B12 w' b t u v :=
  ⟨Nat.lt_of_lt_of_le h.lt hb.size, fun j x hx => (hb.cell (p := ⟨b, j, none⟩) h.lt hn).trans (h.c j x hx), fun j hj => (hb.frozen (p := ⟨b, j, none⟩) h.lt hn).trans (h.f j hj)⟩
theorem B12.below {w w' : World} {b : Nat} {t u v : Tm} (h : B12 w b t u v) (hb : Below w.heap.size w w') : B12 w' b t u v :=
  ⟨Nat.lt_of_lt_of_le h.lt hb.size, fun j x hx => (hb.cell (p := ⟨b, j, none⟩) h.lt).trans (h.c j x hx), fun j hj => (hb.frozen (p := ⟨b, j, none⟩) h.lt).trans (h.f j hj)⟩
theorem B12.new (w : World) (t u v : Tm) (T : TypeId) : B12 (w.alloc (.cells #[.int .i64 t.k, .slice t.a t.len t.cap, .int .i64 t.n, .int .i64 t.s, .int .i64 u.k, .slice u.a u.len u.cap, .int .i64 u.n, .int .i64 u.s, .int .i64 v.k, .slice v.a v.len v.cap, .int .i64 v.n, .int .i64 v.s] T)) w.heap.size t u v := by
  refine ⟨by simp, fun j x hx => ?_, fun j _ => by simp [go_sem]⟩
  have : (w.alloc (.cells (e12 t u v).toArray T)).cell? ⟨w.heap.size, j, none⟩ = (e12 t u v)[j]? := by simp [go_sem]
  exact this.trans hx
/-- Four cells of it are written. -/
theorem B12.setS {w : World} {b : Nat} {t u v : Tm} (h : B12 w b t u v) (x : Tm) : B12 ((((w.setCell ⟨b, 0, none⟩ (.int .i64 x.k)).setCell ⟨b, 1, none⟩ (.slice x.a x.len x.cap)).setCell ⟨b, 2, none⟩ (.int .i64 x.n)).setCell ⟨b, 3, none⟩ (.int .i64 x.s)) b x u v := by
  obtain ⟨⟨h0, h1, h2, h3⟩, ⟨h4, h5, h6, h7⟩, ⟨h8, h9, ha, hb⟩⟩ := h.cells
  refine ⟨by simpa using h.lt, fun j y hy => ?_, fun j hj => by simp [go_sem, h.f j hj]⟩
  have hj : j < 12 := (List.getElem?_eq_some_iff.1 hy).1
  rcases (by omega : j = 0 ∨ j = 1 ∨ j = 2 ∨ j = 3 ∨ j = 4 ∨ j = 5 ∨ j = 6 ∨ j = 7 ∨ j = 8 ∨ j = 9 ∨ j = 10 ∨ j = 11) with rfl | rfl | rfl | rfl | rfl | rfl | rfl | rfl | rfl | rfl | rfl | rfl <;> simp [e12] at hy <;> subst hy <;> simp [go_sem, *]
theorem B12.setP {w : World} {b : Nat} {t u v : Tm} (h : B12 w b t u v) (x : Tm) : B12 ((((w.setCell ⟨b, 4, none⟩ (.int .i64 x.k)).setCell ⟨b, 5, none⟩ (.slice x.a x.len x.cap)).setCell ⟨b, 6, none⟩ (.int .i64 x.n)).setCell ⟨b, 7, none⟩ (.int .i64 x.s)) b t x v := by
  obtain ⟨⟨h0, h1, h2, h3⟩, ⟨h4, h5, h6, h7⟩, ⟨h8, h9, ha, hb⟩⟩ := h.cells
  refine ⟨by simpa using h.lt, fun j y hy => ?_, fun j hj => by simp [go_sem, h.f j hj]⟩
  have hj : j < 12 := (List.getElem?_eq_some_iff.1 hy).1
  rcases (by omega : j = 0 ∨ j = 1 ∨ j = 2 ∨ j = 3 ∨ j = 4 ∨ j = 5 ∨ j = 6 ∨ j = 7 ∨ j = 8 ∨ j = 9 ∨ j = 10 ∨ j = 11) with rfl | rfl | rfl | rfl | rfl | rfl | rfl | rfl | rfl | rfl | rfl | rfl <;> simp [e12] at hy <;> subst hy <;> simp [go_sem, *]
theorem B12.setO {w : World} {b : Nat} {t u v : Tm} (h : B12 w b t u v) (x : Tm) : B12 ((((w.setCell ⟨b, 8, none⟩ (.int .i64 x.k)).setCell ⟨b, 9, none⟩ (.slice x.a x.len x.cap)).setCell ⟨b, 10, none⟩ (.int .i64 x.n)).setCell ⟨b, 11, none⟩ (.int .i64 x.s)) b t u x := by
  obtain ⟨⟨h0, h1, h2, h3⟩, ⟨h4, h5, h6, h7⟩, ⟨h8, h9, ha, hb⟩⟩ := h.cells
  refine ⟨by simpa using h.lt, fun j y hy => ?_, fun j hj => by simp [go_sem, h.f j hj]⟩
  have hj : j < 12 := (List.getElem?_eq_some_iff.1 hy).1
  rcases (by omega : j = 0 ∨ j = 1 ∨ j = 2 ∨ j = 3 ∨ j = 4 ∨ j = 5 ∨ j = 6 ∨ j = 7 ∨ j = 8 ∨ j = 9 ∨ j = 10 ∨ j = 11) with rfl | rfl | rfl | rfl | rfl | rfl | rfl | rfl | rfl | rfl | rfl | rfl <;> simp [e12] at hy <;> subst hy <;> simp [go_sem, *]

/-- A term that was drawn: its numbers are of 64 bits, its text lies from B on and below C. -/
structure DT (w : World) (B C : Nat) (t : Tm) (b : List Int) : Prop where
  fit : t.fits
  len : t.len ≤ 200
  bs : Bs w t.a t.len b
  at_ : t.len = 0 ∨ ∃ g, t.a = some ⟨g, 0, none⟩ ∧ B ≤ g ∧ g < C
  le : C ≤ w.heap.size
theorem DT.keep {w w' : World} {B C : Nat} {t : Tm} {b : List Int} (h : DT w B C t b) (hs : w.heap.size ≤ w'.heap.size) (hu : ∀ c, B ≤ c → c < C → w'.heap[c]? = w.heap[c]?) : DT w' B C t b := by
  obtain ⟨b1, b2, b3, b4⟩ := h.bs
  refine ⟨h.fit, h.len, ⟨b1, b2, b3, ?_⟩, h.at_, Nat.le_trans h.le hs⟩
  rcases b4 with b4 | ⟨c, off, e, hl, hc⟩
  · exact .inl b4
  · rcases h.at_ with h0 | ⟨g, ea, hB, hC⟩
    · exact .inl h0
    · rw [ea] at e
      simp only [Option.some.injEq, Addr.mk.injEq] at e
      obtain ⟨e1, e2, _⟩ := e
      subst e1 e2
      exact .inr ⟨g, 0, ea, Nat.lt_of_lt_of_le hl hs, fun i hi => (World.cell?_of_block (w := w) (a := ⟨g, 0 + i, none⟩) (hu g hB hC)).trans (hc i hi)⟩
theorem DT.past {w w' : World} {B C c : Nat} {t : Tm} {b : List Int} (h : DT w B C t b) (hp : Past c w w') (hc : c < B ∨ C ≤ c) : DT w' B C t b := h.keep hp.size (fun d h1 h2 => hp.block d (Nat.lt_of_lt_of_le h2 h.le) (by omega))
theorem DT.below {w w' : World} {B C : Nat} {t : Tm} {b : List Int} (h : DT w B C t b) (hb : Below w.heap.size w w') : DT w' B C t b := h.keep hb.size (fun d _ h2 => hb.block d (Nat.lt_of_lt_of_le h2 h.le))
theorem DT.mono {w : World} {B B' C C' : Nat} {t : Tm} {b : List Int} (h : DT w B C t b) (hB : B' ≤ B) (hC : C ≤ C') (hw : C' ≤ w.heap.size) : DT w B' C' t b :=
  ⟨h.fit, h.len, h.bs, by
    rcases h.at_ with h0 | ⟨g, ea, h1, h2⟩
    · exact .inl h0
    · exact .inr ⟨g, ea, by omega, by omega⟩, hw⟩
theorem TermRes.dt {B : Nat} {e : Ending} {w : World} (h : TermRes B e w) : ∃ (t : Tm) (b : List Int), e = .returned (.agg #[.int .i64 t.k, .slice t.a t.len t.cap, .int .i64 t.n, .int .i64 t.s]) ∧ DT w B w.heap.size t b ∧ 0 ≤ t.s ∧ t.s ≤ 6 := by
  obtain ⟨k, n, s, a, len, cap, bs, rfl, hn, hs, hl, hT⟩ := h
  exact ⟨⟨k, a, len, cap, n, s⟩, bs, rfl, ⟨⟨hn.1, hn.2, by show _ ≤ s; omega, by show s ≤ _; omega⟩, by show len ≤ 200; omega, hT.b.1, hT.b.2, Nat.le_refl _⟩, hs⟩
theorem DT.none (w : World) (B : Nat) (k n : Int) (hn : -9223372036854775808 ≤ n ∧ n ≤ 9223372036854775807) : DT w B w.heap.size ⟨k, none, 0, 0, n, 0⟩ [] :=
  ⟨⟨hn.1, hn.2, by show (_ : Int) ≤ 0; omega, by show (0 : Int) ≤ _; omega⟩, by show 0 ≤ 200; omega, ⟨rfl, by show 0 ≤ _; omega, by simp, .inl rfl⟩, .inl rfl, Nat.le_refl _⟩
end Go.Proofs.YtobnpfcgcoooeaaGreatDoor

/- GdrB -/
namespace Go.Proofs.YtobnpfcgcoooeaaGreatDoor
open Go.RowKit Go.Deep
set_option maxRecDepth 100000

/-- Scales that may be. -/
def S3 (t u v : Tm) : Prop := (0 ≤ t.s ∧ t.s ≤ 6) ∧ (0 ≤ u.s ∧ u.s ≤ 6) ∧ (0 ≤ v.s ∧ v.s ≤ 6)
/-- What a draw of a triple answers. -/
def TripDrawn (g : Nat) (a : Option Addr) (len cap : Nat) (w : World) (e : Ending) (w' : World) : Prop :=
  (∃ (t u v : Tm) (bt bu bv : List Int), e = .returned (.agg (e12 t u v).toArray) ∧ S3 t u v ∧ DT w' w.heap.size w'.heap.size t bt ∧ DT w' w.heap.size w'.heap.size u bu ∧ DT w' w.heap.size w'.heap.size v bv) ∧ Past g w w' ∧ Cur w' g a len cap
theorem Cur.set_new {w : World} {g : Nat} {a : Option Addr} {len cap : Nat} (h : Cur w g a len cap) {c : Nat} (hc : c ≠ g) (hcode : len = 0 ∨ ∀ p, a = some p → p.block ≠ c) (i : Nat) (v : Value) : Cur (w.setCell ⟨c, i, none⟩ v) g a len cap := by
  have e : ∀ j, (w.setCell ⟨c, i, none⟩ v).cell? ⟨g, j, none⟩ = w.cell? ⟨g, j, none⟩ := fun j => World.cell?_of_block (Below.heap_setCell _ _ _ _ (fun h => hc h.symm))
  have f : ∀ j, (w.setCell ⟨c, i, none⟩ v).frozen? ⟨g, j, none⟩ = w.frozen? ⟨g, j, none⟩ := fun j => World.frozen?_setCell _ _ _ _
  refine ⟨by simpa using h.lt, (e 0).trans h.c0, ?_, ?_, (f 1).trans h.f1, (f 2).trans h.f2, ?_⟩
  · obtain ⟨k, hk, hc1⟩ := h.c1
    exact ⟨k, hk, (e 1).trans hc1⟩
  · obtain ⟨k, hc2⟩ := h.c2
    exact ⟨k, (e 2).trans hc2⟩
  · rcases h.code with h0 | ⟨b, off, ea, hb, hbg, hx⟩
    · exact .inl h0
    · rcases hcode with h0 | hne
      · exact .inl h0
      · refine .inr ⟨b, off, ea, by simpa using hb, hbg, fun j hj => ?_⟩
        rw [World.cell?_of_block (w := w) (a := ⟨b, off + j, none⟩) (Below.heap_setCell _ _ _ _ (hne _ ea))]
        exact hx j hj
theorem strings4 (w : World) (s0 s1 s2 s3 : ByteArray) (T : TypeId) (x : Nat) (hx : x < 4) (h : s0.size ≤ 100 ∧ s1.size ≤ 100 ∧ s2.size ≤ 100 ∧ s3.size ≤ 100) : ∃ s : ByteArray, s.size ≤ 100 ∧ (w.alloc (.cells #[.string s0, .string s1, .string s2, .string s3] T)).cell? ⟨w.heap.size, x, none⟩ = some (.string s) := by
  rcases (by omega : x = 0 ∨ x = 1 ∨ x = 2 ∨ x = 3) with rfl | rfl | rfl | rfl
  · exact ⟨s0, h.1, by simp [go_sem]⟩
  · exact ⟨s1, h.2.1, by simp [go_sem]⟩
  · exact ⟨s2, h.2.2.1, by simp [go_sem]⟩
  · exact ⟨s3, h.2.2.2, by simp [go_sem]⟩
theorem strings3 (w : World) (s0 s1 s2 : ByteArray) (T : TypeId) (x : Nat) (hx : x < 3) (h : s0.size ≤ 100 ∧ s1.size ≤ 100 ∧ s2.size ≤ 100) : ∃ s : ByteArray, s.size ≤ 100 ∧ (w.alloc (.cells #[.string s0, .string s1, .string s2] T)).cell? ⟨w.heap.size, x, none⟩ = some (.string s) := by
  rcases (by omega : x = 0 ∨ x = 1 ∨ x = 2) with rfl | rfl | rfl
  · exact ⟨s0, h.1, by simp [go_sem]⟩
  · exact ⟨s1, h.2.1, by simp [go_sem]⟩
  · exact ⟨s2, h.2.2, by simp [go_sem]⟩
end Go.Proofs.YtobnpfcgcoooeaaGreatDoor
