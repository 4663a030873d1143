/- Texts put together: GraA StrC TreA TreB TbA TreC TreE TreD -/
import Derived.Test.YtganfiajhokkmaaDoorNk01
import Derived.Deep.RegionHeld3
import Derived.Deep.AppendLies
import Derived.Deep.MidRow
/- GraA -/
namespace Go.Proofs.YtganfiajhokkmaaDoor
open Go.RowKit Go.Deep

/-- Three terms in a row from place o on in block b. -/
def Row12 (w : World) (b o : Nat) (t u v : Tm) : Prop :=
  (w.cell? ⟨b, o, none⟩ = some (.int .i64 t.k) ∧ w.cell? ⟨b, o + 1, none⟩ = some (.slice t.a t.len t.cap) ∧ w.cell? ⟨b, o + 2, none⟩ = some (.int .i64 t.n) ∧ w.cell? ⟨b, o + 3, none⟩ = some (.int .i64 t.s)) ∧
    (w.cell? ⟨b, o + 4, none⟩ = some (.int .i64 u.k) ∧ w.cell? ⟨b, o + 5, none⟩ = some (.slice u.a u.len u.cap) ∧ w.cell? ⟨b, o + 6, none⟩ = some (.int .i64 u.n) ∧ w.cell? ⟨b, o + 7, none⟩ = some (.int .i64 u.s)) ∧
    (w.cell? ⟨b, o + 8, none⟩ = some (.int .i64 v.k) ∧ w.cell? ⟨b, o + 9, none⟩ = some (.slice v.a v.len v.cap) ∧ w.cell? ⟨b, o + 10, none⟩ = some (.int .i64 v.n) ∧ w.cell? ⟨b, o + 11, none⟩ = some (.int .i64 v.s))
/-- n triples behind an address. -/
def Rows (w : World) (a : Option Addr) (n : Nat) (T U V : Nat → Tm) : Prop :=
  n = 0 ∨ ∃ b off, a = some ⟨b, off, none⟩ ∧ b < w.heap.size ∧ ∀ i, i < n → Row12 w b (off + i * 12) (T i) (U i) (V i)
theorem Row12.of_block {w w' : World} {b o : Nat} {t u v : Tm} (h : Row12 w b o t u v) (hb : w'.heap[b]? = w.heap[b]?) : Row12 w' b o t u v := by
  have e : ∀ i, w'.cell? ⟨b, i, none⟩ = w.cell? ⟨b, i, none⟩ := fun i => World.cell?_of_block (w := w) (a := ⟨b, i, none⟩) hb
  unfold Row12
  simp only [e]
  exact h
theorem Rows.below {w w' : World} {a : Option Addr} {n : Nat} {T U V : Nat → Tm} (h : Rows w a n T U V) (hb : Below w.heap.size w w') : Rows w' a n T U V := by
  rcases h with h | ⟨b, off, ha, hlt, hc⟩
  · exact .inl h
  · exact .inr ⟨b, off, ha, Nat.lt_of_lt_of_le hlt hb.size, fun i hi => (hc i hi).of_block (hb.block b hlt)⟩
/-- Their texts. -/
def Texts (w : World) (n : Nat) (T : Nat → Tm) (B : Nat → List Int) : Prop := ∀ i, i < n → Bs w (T i).a (T i).len (B i)
theorem Texts.below {w w' : World} {n : Nat} {T : Nat → Tm} {B : Nat → List Int} (h : Texts w n T B) (hb : Below w.heap.size w w') : Texts w' n T B := fun i hi => (h i hi).below hb

end Go.Proofs.YtganfiajhokkmaaDoor

/- StrC -/
namespace Go.Proofs.YtganfiajhokkmaaDoor
open Go.RowKit Go.Deep
set_option maxRecDepth 100000

/-- A term's parts and what its text holds. -/
structure TB where
  t : Tm
  b : List Int
def TB.td (x : TB) : TD := ⟨x.t.k, x.b, x.t.n, x.t.s⟩
def enc4 (t : Tm) : List Value := [.int .i64 t.k, .slice t.a t.len t.cap, .int .i64 t.n, .int .i64 t.s]
/-- The cells of a row of terms. -/
def flat4 (l : List TB) : List Value := l.flatMap fun x => enc4 x.t
theorem flat4_len (l : List TB) : (flat4 l).length = l.length * 4 := by
  induction l with
  | nil => rfl
  | cons x l ih => simp only [flat4, List.flatMap_cons, List.length_append] at *; rw [ih]; simp [enc4]; omega
theorem flat4_get (l : List TB) (i c : Nat) (hi : i < l.length) (hc : c < 4) : (flat4 l)[i * 4 + c]? = (enc4 l[i].t)[c]? := by
  induction l generalizing i with
  | nil => cases hi
  | cons x l ih =>
    have e : flat4 (x :: l) = enc4 x.t ++ flat4 l := rfl
    rw [e]
    cases i with
    | zero => rw [List.getElem?_append_left (by simp [enc4]; omega)]; simp
    | succ i =>
      rw [List.getElem?_append_right (by simp [enc4]; omega)]
      have : (i + 1) * 4 + c - (enc4 x.t).length = i * 4 + c := by simp [enc4]; omega
      rw [this, ih i (by simpa using hi)]
      rfl
theorem flat4_take (l : List TB) (i : Nat) : flat4 (l.take i) = (flat4 l).take (i * 4) := by
  induction l generalizing i with
  | nil => simp [flat4]
  | cons x l ih =>
    cases i with
    | zero => simp [flat4]
    | succ i =>
      have e : flat4 (x :: l) = enc4 x.t ++ flat4 l := rfl
      have e2 : flat4 (x :: l.take i) = enc4 x.t ++ flat4 (l.take i) := rfl
      rw [List.take_succ_cons, e, e2, ih, show (i + 1) * 4 = (enc4 x.t).length + i * 4 by simp [enc4]; omega, List.take_length_add_append]
theorem flat4_drop (l : List TB) (i : Nat) : flat4 (l.drop i) = (flat4 l).drop (i * 4) := by
  induction l generalizing i with
  | nil => simp [flat4]
  | cons x l ih =>
    cases i with
    | zero => simp
    | succ i =>
      have e : flat4 (x :: l) = enc4 x.t ++ flat4 l := rfl
      rw [List.drop_succ_cons, e, ih, show (i + 1) * 4 = (enc4 x.t).length + i * 4 by simp [enc4]; omega, List.drop_length_add_append]

/-- Terms behind an address. -/
def TRow (w : World) (a : Option Addr) (l : List TB) : Prop := l = [] ∨ ∃ b off, a = some ⟨b, off, none⟩ ∧ b < w.heap.size ∧ ∀ j u, (flat4 l)[j]? = some u → w.cell? ⟨b, off + j, none⟩ = some u
theorem TRow.below {w w' : World} {a : Option Addr} {l : List TB} (h : TRow w a l) (hb : Below w.heap.size w w') : TRow w' a l := by
  rcases h with h | ⟨b, off, ha, hl, hc⟩
  · exact .inl h
  · exact .inr ⟨b, off, ha, Nat.lt_of_lt_of_le hl hb.size, fun j u hu => (hb.cell (p := ⟨b, off + j, none⟩) hl).trans (hc j u hu)⟩
theorem TRow.at {w : World} {b off : Nat} {l : List TB} (hc : ∀ j u, (flat4 l)[j]? = some u → w.cell? ⟨b, off + j, none⟩ = some u) (i : Nat) (hi : i < l.length) :
    w.cell? ⟨b, off + i * 4, none⟩ = some (.int .i64 l[i].t.k) ∧ w.cell? ⟨b, off + i * 4 + 1, none⟩ = some (.slice l[i].t.a l[i].t.len l[i].t.cap) ∧ w.cell? ⟨b, off + i * 4 + 2, none⟩ = some (.int .i64 l[i].t.n) ∧ w.cell? ⟨b, off + i * 4 + 3, none⟩ = some (.int .i64 l[i].t.s) := by
  refine ⟨hc (i * 4 + 0) _ ?_, ?_, ?_, ?_⟩
  · rw [flat4_get l i 0 hi (by omega)]; rfl
  · rw [Nat.add_assoc]; exact hc _ _ (by rw [flat4_get l i 1 hi (by omega)]; rfl)
  · rw [Nat.add_assoc]; exact hc _ _ (by rw [flat4_get l i 2 hi (by omega)]; rfl)
  · rw [Nat.add_assoc]; exact hc _ _ (by rw [flat4_get l i 3 hi (by omega)]; rfl)
/-- Their texts. -/
def TTxt (w : World) (l : List TB) : Prop := ∀ x ∈ l, Bs w x.t.a x.t.len x.b
theorem TTxt.below {w w' : World} {l : List TB} (h : TTxt w l) (hb : Below w.heap.size w w') : TTxt w' l := fun x hx => (h x hx).below hb

/-- A row of terms of the call's own, or none as yet. -/
def OwnTR (w : World) (B : Nat) (v : Value) (l : List TB) : Prop := w.ownsRow B 39 4 v l.length (flat4 l) ∧ ∀ g, v.ownBlock = some g → B ≤ g ∧ g < w.heap.size
theorem OwnTR.nil (w : World) (B : Nat) : OwnTR w B (.slice none 0 0) [] := ⟨World.ownsRow_nil _ _ _ _, fun g h => by cases h⟩
theorem OwnTR.below {w w' : World} {B : Nat} {v : Value} {l : List TB} (h : OwnTR w B v l) (hb : Below w.heap.size w w') : OwnTR w' B v l := by
  obtain ⟨⟨h1, h2⟩, hl⟩ := h
  refine ⟨⟨h1, ?_⟩, fun g hg => ⟨(hl g hg).1, Nat.lt_of_lt_of_le (hl g hg).2 hb.size⟩⟩
  rcases h2 with h2 | ⟨g', cap', cur, hv, hB, hh, r⟩
  · exact .inl h2
  · refine .inr ⟨g', cap', cur, hv, hB, ?_, r⟩
    have := (hl g' (by rw [hv]; rfl)).2
    rw [hb.block g' this]
    exact hh
theorem OwnTR.form {w : World} {B : Nat} {v : Value} {l : List TB} (h : OwnTR w B v l) : ∃ a cap, v = .slice a l.length cap ∧ TRow w a l ∧ l.length ≤ cap ∧ (a = none → l = [] ∧ cap = 0) ∧ ∀ x, a = some x → ∃ g, x = ⟨g, 0, none⟩ ∧ B ≤ g ∧ g < w.heap.size := by
  rcases h.1.2 with ⟨rfl, h0⟩ | ⟨g, cap, cur, rfl, hB, hh, hle, _, hsz, htk⟩
  · have := List.eq_nil_of_length_eq_zero h0
    subst this
    exact ⟨none, 0, rfl, .inl rfl, by simp, fun _ => ⟨rfl, rfl⟩, fun x hx => by cases hx⟩
  · have hlt := (h.2 g rfl).2
    refine ⟨some ⟨g, 0, none⟩, cap, rfl, .inr ⟨g, 0, rfl, hlt, fun j u hu => ?_⟩, hle, fun hx => (by cases hx), fun x hx => by cases hx; exact ⟨g, rfl, hB, hlt⟩⟩
    rw [Nat.zero_add]
    have hj : j < l.length * 4 := by
      apply Classical.byContradiction
      intro hn
      rw [List.getElem?_eq_none (by rw [flat4_len]; omega)] at hu
      cases hu
    rw [← htk, List.getElem?_take, if_pos hj] at hu
    simp only [World.cell?, hh]
    simpa using hu

theorem Tryd.info39 : (Tryd.prog.info? 39).map (fun i => (i.zero, i.size, i.bytes)) = some (some (.agg #[.int .i64 0, .slice none 0 0, .int .i64 0, .int .i64 0]), 4, 48) := by kernel_rfl

/-- The cells of some of them. -/
theorem TRow.news {w : World} {b off : Nat} {l : List TB} (hc : ∀ j u, (flat4 l)[j]? = some u → w.cell? ⟨b, off + j, none⟩ = some u) (i m : Nat) :
    ∀ j u, (flat4 ((l.drop i).take m))[j]? = some u → w.cell? ((⟨b, off + i * 4, none⟩ : Addr).add j) = some u := by
  intro j u hu
  have ea : (⟨b, off + i * 4, none⟩ : Addr).add j = ⟨b, off + (i * 4 + j), none⟩ := by
    by_cases h0 : j = 0 <;> simp [Addr.add, h0, Nat.add_assoc]
  rw [ea]
  refine hc _ _ ?_
  rw [flat4_take, flat4_drop, List.getElem?_take] at hu
  split at hu
  · rw [List.getElem?_drop] at hu; exact hu
  · cases hu
end Go.Proofs.YtganfiajhokkmaaDoor

/- TreA -/
namespace Go.Proofs.YtganfiajhokkmaaDoor
open Go.RowKit Go.Deep
set_option maxRecDepth 100000

/-- A text: where it lies and what it holds. -/
structure SL where
  a : Option Addr
  len : Nat
  cap : Nat
  b : List Int
/-- All blocks from B on stay. -/
structure Upper (B : Nat) (w w' : World) : Prop where
  size : w.heap.size ≤ w'.heap.size
  block : ∀ b, B ≤ b → b < w.heap.size → w'.heap[b]? = w.heap[b]?
theorem Upper.cell {B : Nat} {w w' : World} (h : Upper B w w') {b o : Nat} (h1 : B ≤ b) (h2 : b < w.heap.size) : w'.cell? ⟨b, o, none⟩ = w.cell? ⟨b, o, none⟩ := World.cell?_of_block (w := w) (a := ⟨b, o, none⟩) (h.block b h1 h2)
theorem Upper.of_below {B : Nat} {w w' : World} (h : Below w.heap.size w w') : Upper B w w' := ⟨h.size, fun b _ hb => h.block b hb⟩
/-- A text in blocks from B on. -/
def BsF (B : Nat) (w : World) (x : SL) : Prop := Bs w x.a x.len x.b ∧ (x.len = 0 ∨ ∀ p, x.a = some p → B ≤ p.block)
theorem BsF.upper {B : Nat} {w w' : World} {x : SL} (h : BsF B w x) (hu : Upper B w w') : BsF B w' x := by
  obtain ⟨⟨h1, h2, h3, h4⟩, h5⟩ := h
  refine ⟨⟨h1, h2, h3, ?_⟩, h5⟩
  rcases h4 with h4 | ⟨b, off, ha, hlt, hc⟩
  · exact .inl h4
  · by_cases h0 : x.len = 0
    · exact .inl h0
    · have hB : B ≤ b := (h5.resolve_left h0) _ ha
      exact .inr ⟨b, off, ha, Nat.lt_of_lt_of_le hlt hu.size, fun i hi => (hu.cell hB hlt).trans (hc i hi)⟩
theorem BsF.base {B B' : Nat} {w : World} {x : SL} (h : BsF B w x) (hB : B' ≤ B) : BsF B' w x := ⟨h.1, h.2.imp id fun h p hp => Nat.le_trans hB (h p hp)⟩
def TB.sl (x : TB) : SL := ⟨x.t.a, x.t.len, x.t.cap, x.b⟩
/-- Elements of sz cells in a row, in a block from B on. -/
def KRow (B : Nat) (w : World) (sz : Nat) (a : Option Addr) (n : Nat) (C : Nat → List Value) : Prop :=
  n = 0 ∨ ∃ b off, a = some ⟨b, off, none⟩ ∧ B ≤ b ∧ b < w.heap.size ∧ ∀ i, i < n → ∀ c u, (C i)[c]? = some u → w.cell? ⟨b, off + i * sz + c, none⟩ = some u
theorem KRow.upper {B : Nat} {w w' : World} {sz : Nat} {a : Option Addr} {n : Nat} {C : Nat → List Value} (h : KRow B w sz a n C) (hu : Upper B w w') : KRow B w' sz a n C := by
  rcases h with h | ⟨b, off, ha, hB, hlt, hc⟩
  · exact .inl h
  · exact .inr ⟨b, off, ha, hB, Nat.lt_of_lt_of_le hlt hu.size, fun i hi c u hcu => (hu.cell hB hlt).trans (hc i hi c u hcu)⟩
theorem KRow.base {B B' : Nat} {w : World} {sz : Nat} {a : Option Addr} {n : Nat} {C : Nat → List Value} (h : KRow B w sz a n C) (hB : B' ≤ B) : KRow B' w sz a n C := by
  rcases h with h | ⟨b, off, ha, hB', h⟩
  · exact .inl h
  · exact .inr ⟨b, off, ha, Nat.le_trans hB hB', h⟩
/-- A text that came in: where it is not too long its bytes lie there. -/
def Cm (w : World) (x : SL) : Prop := x.len ≤ 9223372036854775807 ∧ (x.len ≤ 1048576 → Bs w x.a x.len x.b)
theorem Cm.below {w w' : World} {x : SL} (h : Cm w x) (hb : Below w.heap.size w w') : Cm w' x := ⟨h.1, fun hs => (h.2 hs).below hb⟩
theorem Cm.bs {w : World} {x : SL} (h : Cm w x) (hs : x.len ≤ 1048576) : BsF 0 w x := ⟨h.2 hs, .inr fun _ _ => Nat.zero_le _⟩

/-- An item. -/
structure IB where
  v : SL
  t : TB
def IB.cells (x : IB) : List Value := [.slice x.v.a x.v.len x.v.cap, .int .i64 x.t.t.k, .slice x.t.t.a x.t.t.len x.t.t.cap, .int .i64 x.t.t.n, .int .i64 x.t.t.s]
def IB.lies (B : Nat) (w : World) (x : IB) : Prop := BsF B w x.v ∧ BsF B w x.t.sl ∧ x.t.t.fits
def IB.came (w : World) (x : IB) : Prop := Cm w x.v ∧ Cm w x.t.sl ∧ x.t.t.fits
def IB.small (x : IB) : Prop := x.v.len ≤ 1048576 ∧ x.t.t.len ≤ 1048576
theorem IB.lies.upper {B : Nat} {w w' : World} {x : IB} (h : x.lies B w) (hu : Upper B w w') : x.lies B w' := ⟨h.1.upper hu, h.2.1.upper hu, h.2.2⟩
theorem IB.lies.base {B B' : Nat} {w : World} {x : IB} (h : x.lies B w) (hB : B' ≤ B) : x.lies B' w := ⟨h.1.base hB, h.2.1.base hB, h.2.2⟩
theorem IB.came.below {w w' : World} {x : IB} (h : x.came w) (hb : Below w.heap.size w w') : x.came w' := ⟨h.1.below hb, h.2.1.below hb, h.2.2⟩
theorem IB.came.lies {w : World} {x : IB} (h : x.came w) (hs : x.small) : x.lies 0 w := ⟨h.1.bs hs.1, h.2.1.bs hs.2, h.2.2⟩
/-- A pattern. -/
structure PB where
  s : IB
  p : IB
  o : IB
def PB.cells (x : PB) : List Value := [.slice x.s.v.a x.s.v.len x.s.v.cap, .int .i64 x.s.t.t.k, .slice x.s.t.t.a x.s.t.t.len x.s.t.t.cap, .int .i64 x.s.t.t.n, .int .i64 x.s.t.t.s,
  .slice x.p.v.a x.p.v.len x.p.v.cap, .int .i64 x.p.t.t.k, .slice x.p.t.t.a x.p.t.t.len x.p.t.t.cap, .int .i64 x.p.t.t.n, .int .i64 x.p.t.t.s,
  .slice x.o.v.a x.o.v.len x.o.v.cap, .int .i64 x.o.t.t.k, .slice x.o.t.t.a x.o.t.t.len x.o.t.t.cap, .int .i64 x.o.t.t.n, .int .i64 x.o.t.t.s]
def PB.lies (B : Nat) (w : World) (x : PB) : Prop := x.s.lies B w ∧ x.p.lies B w ∧ x.o.lies B w
def PB.came (w : World) (x : PB) : Prop := x.s.came w ∧ x.p.came w ∧ x.o.came w
def PB.small (x : PB) : Prop := x.s.small ∧ x.p.small ∧ x.o.small
theorem PB.lies.upper {B : Nat} {w w' : World} {x : PB} (h : x.lies B w) (hu : Upper B w w') : x.lies B w' := ⟨h.1.upper hu, h.2.1.upper hu, h.2.2.upper hu⟩
theorem PB.lies.base {B B' : Nat} {w : World} {x : PB} (h : x.lies B w) (hB : B' ≤ B) : x.lies B' w := ⟨h.1.base hB, h.2.1.base hB, h.2.2.base hB⟩
theorem PB.came.below {w w' : World} {x : PB} (h : x.came w) (hb : Below w.heap.size w w') : x.came w' := ⟨h.1.below hb, h.2.1.below hb, h.2.2.below hb⟩
theorem PB.came.lies {w : World} {x : PB} (h : x.came w) (hs : x.small) : x.lies 0 w := ⟨IB.came.lies h.1 hs.1, IB.came.lies h.2.1 hs.2.1, IB.came.lies h.2.2 hs.2.2⟩

/-- What lies in an expression's own cells. -/
structure EN where
  k : Int
  op : Int
  v : SL
  t : TB
  ka : Option Addr
  kc : Nat
  n : Nat
def EN.cells (d : EN) : List Value := [.int .i64 d.k, .int .i64 d.op, .slice d.v.a d.v.len d.v.cap, .int .i64 d.t.t.k, .slice d.t.t.a d.t.t.len d.t.t.cap, .int .i64 d.t.t.n, .int .i64 d.t.t.s, .slice d.ka d.n d.kc]
def EN0 : EN := ⟨0, 0, ⟨none, 0, 0, []⟩, ⟨⟨0, none, 0, 0, 0, 0⟩, []⟩, none, 0, 0⟩
/-- An expression: of its Kids the first n count (nil: what lies behind them). -/
inductive ET where
  | nil
  | mk (d : EN) (kid : Nat → ET)
def ET.d : ET → EN
  | .nil => EN0
  | .mk d _ => d
def ET.lies (B : Nat) (w : World) : ET → Prop
  | .nil => False
  | .mk d kid => BsF B w d.v ∧ BsF B w d.t.sl ∧ d.t.t.fits ∧ d.n ≤ 1048576 ∧ KRow B w 8 d.ka d.n (fun i => (kid i).d.cells) ∧ ∀ i, i < d.n → (kid i).lies B w
def ET.came (w : World) : ET → Prop
  | .nil => False
  | .mk d kid => Cm w d.v ∧ Cm w d.t.sl ∧ d.t.t.fits ∧ d.n ≤ 9223372036854775807 ∧ KRow 0 w 8 d.ka d.n (fun i => (kid i).d.cells) ∧ ∀ i, i < d.n → (kid i).came w
def ET.small : ET → Prop
  | .nil => False
  | .mk d kid => d.v.len ≤ 1048576 ∧ d.t.t.len ≤ 1048576 ∧ d.n ≤ 1048576 ∧ ∀ i, i < d.n → (kid i).small
theorem ET.lies.upper {B : Nat} {w w' : World} (hu : Upper B w w') {e : ET} (h : e.lies B w) : e.lies B w' := by
  induction e with
  | nil => exact False.elim h
  | mk d kid ih => exact ⟨h.1.upper hu, h.2.1.upper hu, h.2.2.1, h.2.2.2.1, h.2.2.2.2.1.upper hu, fun i hi => ih i (h.2.2.2.2.2 i hi)⟩
theorem ET.lies.base {B B' : Nat} {w : World} (hB : B' ≤ B) {e : ET} (h : e.lies B w) : e.lies B' w := by
  induction e with
  | nil => exact False.elim h
  | mk d kid ih => exact ⟨h.1.base hB, h.2.1.base hB, h.2.2.1, h.2.2.2.1, h.2.2.2.2.1.base hB, fun i hi => ih i (h.2.2.2.2.2 i hi)⟩
theorem ET.lies.below {B : Nat} {w w' : World} {e : ET} (h : e.lies B w) (hb : Below w.heap.size w w') : e.lies B w' := ET.lies.upper (Upper.of_below hb) h
theorem ET.came.below {w w' : World} (hb : Below w.heap.size w w') {e : ET} (h : e.came w) : e.came w' := by
  induction e with
  | nil => exact False.elim h
  | mk d kid ih => exact ⟨h.1.below hb, h.2.1.below hb, h.2.2.1, h.2.2.2.1, h.2.2.2.2.1.upper (Upper.of_below hb), fun i hi => ih i (h.2.2.2.2.2 i hi)⟩
theorem ET.came.lies {w : World} {e : ET} (h : e.came w) (hs : e.small) : e.lies 0 w := by
  induction e with
  | nil => exact False.elim h
  | mk d kid ih => exact ⟨h.1.bs hs.1, h.2.1.bs hs.2.1, h.2.2.1, hs.2.2.1, h.2.2.2.2.1, fun i hi => ih i (h.2.2.2.2.2 i hi) (hs.2.2.2 i hi)⟩

/-- What lies in an algebra's own cells. -/
structure AN where
  k : Int
  pa : Option Addr
  pc : Nat
  pn : Nat
  pat : Nat → PB
  e : ET
  v : SL
  ta : Option Addr
  tc : Nat
  tb : List TB
  ka : Option Addr
  kc : Nat
  n : Nat
def AN.cells (d : AN) : List Value := [.int .i64 d.k, .slice d.pa d.pn d.pc, .int .i64 d.e.d.k, .int .i64 d.e.d.op, .slice d.e.d.v.a d.e.d.v.len d.e.d.v.cap, .int .i64 d.e.d.t.t.k, .slice d.e.d.t.t.a d.e.d.t.t.len d.e.d.t.t.cap, .int .i64 d.e.d.t.t.n, .int .i64 d.e.d.t.t.s, .slice d.e.d.ka d.e.d.n d.e.d.kc,
  .slice d.v.a d.v.len d.v.cap, .slice d.ta d.tb.length d.tc, .slice d.ka d.n d.kc]
def AN0 : AN := ⟨0, none, 0, 0, fun _ => ⟨⟨⟨none, 0, 0, []⟩, ⟨⟨0, none, 0, 0, 0, 0⟩, []⟩⟩, ⟨⟨none, 0, 0, []⟩, ⟨⟨0, none, 0, 0, 0, 0⟩, []⟩⟩, ⟨⟨none, 0, 0, []⟩, ⟨⟨0, none, 0, 0, 0, 0⟩, []⟩⟩⟩, .nil, ⟨none, 0, 0, []⟩, none, 0, [], none, 0, 0⟩
inductive AT where
  | nil
  | mk (d : AN) (kid : Nat → AT)
def AT.d : AT → AN
  | .nil => AN0
  | .mk d _ => d
/-- Terms in a row, in blocks from B on. -/
def TRowF (B : Nat) (w : World) (a : Option Addr) (l : List TB) : Prop := TRow w a l ∧ (l = [] ∨ ∀ p, a = some p → B ≤ p.block) ∧ ∀ x ∈ l, BsF B w x.sl ∧ x.t.fits
theorem TRowF.upper {B : Nat} {w w' : World} {a : Option Addr} {l : List TB} (h : TRowF B w a l) (hu : Upper B w w') : TRowF B w' a l := by
  obtain ⟨h1, h2, h3⟩ := h
  refine ⟨?_, h2, fun x hx => ⟨(h3 x hx).1.upper hu, (h3 x hx).2⟩⟩
  rcases h1 with h1 | ⟨b, off, ha, hlt, hc⟩
  · exact .inl h1
  · by_cases h0 : l = []
    · exact .inl h0
    · have hB : B ≤ b := (h2.resolve_left h0) _ ha
      exact .inr ⟨b, off, ha, Nat.lt_of_lt_of_le hlt hu.size, fun j u hju => (hu.cell hB hlt).trans (hc j u hju)⟩
theorem TRowF.base {B B' : Nat} {w : World} {a : Option Addr} {l : List TB} (h : TRowF B w a l) (hB : B' ≤ B) : TRowF B' w a l := ⟨h.1, h.2.1.imp id fun h p hp => Nat.le_trans hB (h p hp), fun x hx => ⟨(h.2.2 x hx).1.base hB, (h.2.2 x hx).2⟩⟩
theorem TRowF.txt {B : Nat} {w : World} {a : Option Addr} {l : List TB} (h : TRowF B w a l) : TTxt w l := fun x hx => (h.2.2 x hx).1.1
def AT.lies (B : Nat) (w : World) : AT → Prop
  | .nil => False
  | .mk d kid => KRow B w 15 d.pa d.pn (fun i => (d.pat i).cells) ∧ (∀ i, i < d.pn → (d.pat i).lies B w) ∧ d.pn ≤ 1048576 ∧ d.e.lies B w ∧ BsF B w d.v ∧ TRowF B w d.ta d.tb ∧ d.tb.length ≤ 1048576 ∧ d.n ≤ 1048576 ∧ KRow B w 13 d.ka d.n (fun i => (kid i).d.cells) ∧ ∀ i, i < d.n → (kid i).lies B w
/-- Terms in a row that came in. -/
def TCm (w : World) (a : Option Addr) (l : List TB) : Prop := TRow w a l ∧ l.length ≤ 9223372036854775807 ∧ ∀ x ∈ l, Cm w x.sl ∧ x.t.fits
theorem TCm.below {w w' : World} {a : Option Addr} {l : List TB} (h : TCm w a l) (hb : Below w.heap.size w w') : TCm w' a l := ⟨h.1.below hb, h.2.1, fun x hx => ⟨(h.2.2 x hx).1.below hb, (h.2.2 x hx).2⟩⟩
theorem TCm.lies {w : World} {a : Option Addr} {l : List TB} (h : TCm w a l) (hs : ∀ x ∈ l, x.t.len ≤ 1048576) : TRowF 0 w a l := ⟨h.1, .inr fun _ _ => Nat.zero_le _, fun x hx => ⟨(h.2.2 x hx).1.bs (hs x hx), (h.2.2 x hx).2⟩⟩
def AT.came (w : World) : AT → Prop
  | .nil => False
  | .mk d kid => KRow 0 w 15 d.pa d.pn (fun i => (d.pat i).cells) ∧ (∀ i, i < d.pn → (d.pat i).came w) ∧ d.pn ≤ 9223372036854775807 ∧ d.e.came w ∧ Cm w d.v ∧ TCm w d.ta d.tb ∧ d.n ≤ 9223372036854775807 ∧ KRow 0 w 13 d.ka d.n (fun i => (kid i).d.cells) ∧ ∀ i, i < d.n → (kid i).came w
def AT.small : AT → Prop
  | .nil => False
  | .mk d kid => d.pn ≤ 1048576 ∧ (∀ i, i < d.pn → (d.pat i).small) ∧ d.e.small ∧ d.v.len ≤ 1048576 ∧ (d.tb.length ≤ 1048576 ∧ ∀ x ∈ d.tb, x.t.len ≤ 1048576) ∧ d.n ≤ 1048576 ∧ ∀ i, i < d.n → (kid i).small
theorem AT.lies.upper {B : Nat} {w w' : World} (hu : Upper B w w') {e : AT} (h : e.lies B w) : e.lies B w' := by
  induction e with
  | nil => exact False.elim h
  | mk d kid ih =>
    obtain ⟨h1, h2, h3, h4, h5, h6, h7, h8, h9, h10⟩ := h
    exact ⟨h1.upper hu, fun i hi => (h2 i hi).upper hu, h3, ET.lies.upper hu h4, h5.upper hu, h6.upper hu, h7, h8, h9.upper hu, fun i hi => ih i (h10 i hi)⟩
theorem AT.lies.base {B B' : Nat} {w : World} (hB : B' ≤ B) {e : AT} (h : e.lies B w) : e.lies B' w := by
  induction e with
  | nil => exact False.elim h
  | mk d kid ih =>
    obtain ⟨h1, h2, h3, h4, h5, h6, h7, h8, h9, h10⟩ := h
    exact ⟨h1.base hB, fun i hi => (h2 i hi).base hB, h3, ET.lies.base hB h4, h5.base hB, h6.base hB, h7, h8, h9.base hB, fun i hi => ih i (h10 i hi)⟩
theorem AT.lies.below {B : Nat} {w w' : World} {e : AT} (h : e.lies B w) (hb : Below w.heap.size w w') : e.lies B w' := AT.lies.upper (Upper.of_below hb) h
theorem AT.came.below {w w' : World} (hb : Below w.heap.size w w') {e : AT} (h : e.came w) : e.came w' := by
  induction e with
  | nil => exact False.elim h
  | mk d kid ih =>
    obtain ⟨h1, h2, h3, h4, h5, h6, h7, h8, h9⟩ := h
    exact ⟨h1.upper (Upper.of_below hb), fun i hi => (h2 i hi).below hb, h3, ET.came.below hb h4, h5.below hb, h6.below hb, h7, h8.upper (Upper.of_below hb), fun i hi => ih i (h9 i hi)⟩
theorem AT.came.lies {w : World} {e : AT} (h : e.came w) (hs : e.small) : e.lies 0 w := by
  induction e with
  | nil => exact False.elim h
  | mk d kid ih =>
    obtain ⟨h1, h2, h3, h4, h5, h6, h7, h8, h9⟩ := h
    obtain ⟨s1, s2, s3, s4, ⟨s5, s6⟩, s7, s8⟩ := hs
    exact ⟨h1, fun i hi => PB.came.lies (h2 i hi) (s2 i hi), s1, ET.came.lies h4 s3, h5.bs s4, h6.lies s6, s5, s7, h8, fun i hi => ih i (h9 i hi) (s8 i hi)⟩

/-- What lies in a plan's own cells. -/
structure PN where
  k : Int
  ord : Int
  p : PB
  e : ET
  v : SL
  ta : Option Addr
  tc : Nat
  tb : List TB
  ka : Option Addr
  kc : Nat
  n : Nat
def PN.cells (d : PN) : List Value := [.int .i64 d.k, .int .i64 d.ord, .slice d.p.s.v.a d.p.s.v.len d.p.s.v.cap, .int .i64 d.p.s.t.t.k, .slice d.p.s.t.t.a d.p.s.t.t.len d.p.s.t.t.cap, .int .i64 d.p.s.t.t.n, .int .i64 d.p.s.t.t.s,
  .slice d.p.p.v.a d.p.p.v.len d.p.p.v.cap, .int .i64 d.p.p.t.t.k, .slice d.p.p.t.t.a d.p.p.t.t.len d.p.p.t.t.cap, .int .i64 d.p.p.t.t.n, .int .i64 d.p.p.t.t.s,
  .slice d.p.o.v.a d.p.o.v.len d.p.o.v.cap, .int .i64 d.p.o.t.t.k, .slice d.p.o.t.t.a d.p.o.t.t.len d.p.o.t.t.cap, .int .i64 d.p.o.t.t.n, .int .i64 d.p.o.t.t.s,
  .int .i64 d.e.d.k, .int .i64 d.e.d.op, .slice d.e.d.v.a d.e.d.v.len d.e.d.v.cap, .int .i64 d.e.d.t.t.k, .slice d.e.d.t.t.a d.e.d.t.t.len d.e.d.t.t.cap, .int .i64 d.e.d.t.t.n, .int .i64 d.e.d.t.t.s, .slice d.e.d.ka d.e.d.n d.e.d.kc,
  .slice d.v.a d.v.len d.v.cap, .slice d.ta d.tb.length d.tc, .slice d.ka d.n d.kc]
def PN0 : PN := ⟨0, 0, ⟨⟨⟨none, 0, 0, []⟩, ⟨⟨0, none, 0, 0, 0, 0⟩, []⟩⟩, ⟨⟨none, 0, 0, []⟩, ⟨⟨0, none, 0, 0, 0, 0⟩, []⟩⟩, ⟨⟨none, 0, 0, []⟩, ⟨⟨0, none, 0, 0, 0, 0⟩, []⟩⟩⟩, .nil, ⟨none, 0, 0, []⟩, none, 0, [], none, 0, 0⟩
inductive PT where
  | nil
  | mk (d : PN) (kid : Nat → PT)
def PT.d : PT → PN
  | .nil => PN0
  | .mk d _ => d
def PT.lies (B : Nat) (w : World) : PT → Prop
  | .nil => False
  | .mk d kid => d.p.lies B w ∧ d.e.lies B w ∧ BsF B w d.v ∧ TRowF B w d.ta d.tb ∧ d.tb.length ≤ 1048576 ∧ d.n ≤ 1048576 ∧ KRow B w 28 d.ka d.n (fun i => (kid i).d.cells) ∧ ∀ i, i < d.n → (kid i).lies B w
def PT.came (w : World) : PT → Prop
  | .nil => False
  | .mk d kid => d.p.came w ∧ d.e.came w ∧ Cm w d.v ∧ TCm w d.ta d.tb ∧ d.n ≤ 9223372036854775807 ∧ KRow 0 w 28 d.ka d.n (fun i => (kid i).d.cells) ∧ ∀ i, i < d.n → (kid i).came w
def PT.small : PT → Prop
  | .nil => False
  | .mk d kid => d.p.small ∧ d.e.small ∧ d.v.len ≤ 1048576 ∧ (d.tb.length ≤ 1048576 ∧ ∀ x ∈ d.tb, x.t.len ≤ 1048576) ∧ d.n ≤ 1048576 ∧ ∀ i, i < d.n → (kid i).small
theorem PT.lies.upper {B : Nat} {w w' : World} (hu : Upper B w w') {e : PT} (h : e.lies B w) : e.lies B w' := by
  induction e with
  | nil => exact False.elim h
  | mk d kid ih =>
    obtain ⟨h2, h4, h5, h6, h7, h8, h9, h10⟩ := h
    exact ⟨h2.upper hu, ET.lies.upper hu h4, h5.upper hu, h6.upper hu, h7, h8, h9.upper hu, fun i hi => ih i (h10 i hi)⟩
theorem PT.lies.base {B B' : Nat} {w : World} (hB : B' ≤ B) {e : PT} (h : e.lies B w) : e.lies B' w := by
  induction e with
  | nil => exact False.elim h
  | mk d kid ih =>
    obtain ⟨h2, h4, h5, h6, h7, h8, h9, h10⟩ := h
    exact ⟨h2.base hB, ET.lies.base hB h4, h5.base hB, h6.base hB, h7, h8, h9.base hB, fun i hi => ih i (h10 i hi)⟩
theorem PT.lies.below {B : Nat} {w w' : World} {e : PT} (h : e.lies B w) (hb : Below w.heap.size w w') : e.lies B w' := PT.lies.upper (Upper.of_below hb) h
theorem PT.came.below {w w' : World} (hb : Below w.heap.size w w') {e : PT} (h : e.came w) : e.came w' := by
  induction e with
  | nil => exact False.elim h
  | mk d kid ih =>
    obtain ⟨h2, h4, h5, h6, h7, h8, h9⟩ := h
    exact ⟨h2.below hb, ET.came.below hb h4, h5.below hb, h6.below hb, h7, h8.upper (Upper.of_below hb), fun i hi => ih i (h9 i hi)⟩
theorem PT.came.lies {w : World} {e : PT} (h : e.came w) (hs : e.small) : e.lies 0 w := by
  induction e with
  | nil => exact False.elim h
  | mk d kid ih =>
    obtain ⟨h2, h4, h5, h6, h7, h8, h9⟩ := h
    obtain ⟨s2, s3, s4, ⟨s5, s6⟩, s7, s8⟩ := hs
    exact ⟨PB.came.lies h2 s2, ET.came.lies h4 s3, h5.bs s4, h6.lies s6, s5, s7, h8, fun i hi => ih i (h9 i hi) (s8 i hi)⟩
end Go.Proofs.YtganfiajhokkmaaDoor

/- TreB -/
namespace Go.Proofs.YtganfiajhokkmaaDoor
open Go.RowKit Go.Deep
set_option maxRecDepth 100000

/-- What lies in a box. -/
def Box (w : World) (b : Nat) (L : List Value) : Prop := b < w.heap.size ∧ ∀ c u, L[c]? = some u → w.cell? ⟨b, c, none⟩ = some u
theorem Box.new (w : World) (vs : Array Value) (t : TypeId) (fr : Nat × Nat) : Box (w.alloc (.cells vs t fr)) w.heap.size vs.toList := by
  refine ⟨by simp, fun c u hu => ?_⟩
  rw [Array.getElem?_toList] at hu
  have h : (w.alloc (.cells vs t fr)).heap[w.heap.size]? = some (.cells vs t fr) := by
    show (w.heap.push _)[w.heap.size]? = _
    rw [Array.getElem?_push]
    simp
  simp only [World.cell?, h]
  exact hu
theorem Box.below {w w' : World} {b : Nat} {L : List Value} (h : Box w b L) (hb : Below w.heap.size w w') : Box w' b L := ⟨Nat.lt_of_lt_of_le h.1 hb.size, fun c u hu => (hb.cell (p := ⟨b, c, none⟩) h.1).trans (h.2 c u hu)⟩
/-- A part of a box, read as a whole. -/
theorem Box.range {w : World} {b : Nat} {L : List Value} (h : Box w b L) (c : Nat) (cs : List Value) (hcs : (L.drop c).take cs.length = cs) : w.rangeAt b c cs := by
  intro j v hv
  refine h.2 (c + j) v ?_
  rw [← hcs, List.getElem?_take] at hv
  split at hv
  · rwa [List.getElem?_drop] at hv
  · cases hv
end Go.Proofs.YtganfiajhokkmaaDoor

/- TbA -/
namespace Go.Proofs.YtganfiajhokkmaaDoor
open Go.RowKit Go.Deep
set_option maxRecDepth 100000

/-- A cell. -/
structure CB where
  has : Bool
  t : TB
def CB.cells (x : CB) : List Value := [.bool x.has, .int .i64 x.t.t.k, .slice x.t.t.a x.t.t.len x.t.t.cap, .int .i64 x.t.t.n, .int .i64 x.t.t.s]
def CB.lies (B : Nat) (w : World) (x : CB) : Prop := BsF B w x.t.sl ∧ x.t.t.fits
def CB.came (w : World) (x : CB) : Prop := Cm w x.t.sl ∧ x.t.t.fits
def CB.small (x : CB) : Prop := x.t.t.len ≤ 1048576
theorem CB.lies.upper {B : Nat} {w w' : World} {x : CB} (h : x.lies B w) (hu : Upper B w w') : x.lies B w' := ⟨h.1.upper hu, h.2⟩
theorem CB.lies.base {B B' : Nat} {w : World} {x : CB} (h : x.lies B w) (hB : B' ≤ B) : x.lies B' w := ⟨h.1.base hB, h.2⟩
theorem CB.came.below {w w' : World} {x : CB} (h : x.came w) (hb : Below w.heap.size w w') : x.came w' := ⟨h.1.below hb, h.2⟩
theorem CB.came.lies {w : World} {x : CB} (h : x.came w) (hs : x.small) : x.lies 0 w := ⟨h.1.bs hs, h.2⟩
/-- A solution. -/
structure SO where
  a : Option Addr
  cap : Nat
  n : Nat
  cel : Nat → CB
def SO.cells (x : SO) : List Value := [.slice x.a x.n x.cap]
def SO.lies (B : Nat) (w : World) (x : SO) : Prop := KRow B w 5 x.a x.n (fun i => (x.cel i).cells) ∧ (∀ i, i < x.n → (x.cel i).lies B w) ∧ x.n ≤ 1048576
def SO.came (w : World) (x : SO) : Prop := KRow 0 w 5 x.a x.n (fun i => (x.cel i).cells) ∧ (∀ i, i < x.n → (x.cel i).came w) ∧ x.n ≤ 9223372036854775807
def SO.small (x : SO) : Prop := x.n ≤ 1048576 ∧ ∀ i, i < x.n → (x.cel i).small
theorem SO.lies.upper {B : Nat} {w w' : World} {x : SO} (h : x.lies B w) (hu : Upper B w w') : x.lies B w' := ⟨h.1.upper hu, fun i hi => (h.2.1 i hi).upper hu, h.2.2⟩
theorem SO.lies.base {B B' : Nat} {w : World} {x : SO} (h : x.lies B w) (hB : B' ≤ B) : x.lies B' w := ⟨h.1.base hB, fun i hi => (h.2.1 i hi).base hB, h.2.2⟩
theorem SO.came.below {w w' : World} {x : SO} (h : x.came w) (hb : Below w.heap.size w w') : x.came w' := ⟨h.1.upper (Upper.of_below hb), fun i hi => (h.2.1 i hi).below hb, h.2.2⟩
theorem SO.came.lies {w : World} {x : SO} (h : x.came w) (hs : x.small) : x.lies 0 w := ⟨h.1, fun i hi => (h.2.1 i hi).lies (hs.2 i hi), hs.1⟩
/-- Texts as elements. -/
def SL.lies (B : Nat) (w : World) (x : SL) : Prop := BsF B w x
def SL.came (w : World) (x : SL) : Prop := Cm w x
def SL.small (x : SL) : Prop := x.len ≤ 1048576
def SL.cells (x : SL) : List Value := [.slice x.a x.len x.cap]
theorem SL.lies.upper {B : Nat} {w w' : World} {x : SL} (h : x.lies B w) (hu : Upper B w w') : x.lies B w' := BsF.upper h hu
theorem SL.lies.base {B B' : Nat} {w : World} {x : SL} (h : x.lies B w) (hB : B' ≤ B) : x.lies B' w := BsF.base h hB
/-- A table. -/
structure TL where
  va : Option Addr
  vc : Nat
  vn : Nat
  var : Nat → SL
  ra : Option Addr
  rc : Nat
  rn : Nat
  row : Nat → SO
def TL.cells (x : TL) : List Value := [.slice x.va x.vn x.vc, .slice x.ra x.rn x.rc]
def TL.lies (B : Nat) (w : World) (x : TL) : Prop := KRow B w 1 x.va x.vn (fun i => (x.var i).cells) ∧ (∀ i, i < x.vn → (x.var i).lies B w) ∧ x.vn ≤ 1048576 ∧ KRow B w 1 x.ra x.rn (fun i => (x.row i).cells) ∧ (∀ i, i < x.rn → (x.row i).lies B w) ∧ x.rn ≤ 1048576
def TL.came (w : World) (x : TL) : Prop := KRow 0 w 1 x.va x.vn (fun i => (x.var i).cells) ∧ (∀ i, i < x.vn → (x.var i).came w) ∧ x.vn ≤ 9223372036854775807 ∧ KRow 0 w 1 x.ra x.rn (fun i => (x.row i).cells) ∧ (∀ i, i < x.rn → (x.row i).came w) ∧ x.rn ≤ 9223372036854775807
def TL.small (x : TL) : Prop := (x.vn ≤ 1048576 ∧ ∀ i, i < x.vn → (x.var i).small) ∧ x.rn ≤ 1048576 ∧ ∀ i, i < x.rn → (x.row i).small
theorem TL.lies.upper {B : Nat} {w w' : World} {x : TL} (h : x.lies B w) (hu : Upper B w w') : x.lies B w' := ⟨h.1.upper hu, fun i hi => (h.2.1 i hi).upper hu, h.2.2.1, h.2.2.2.1.upper hu, fun i hi => (h.2.2.2.2.1 i hi).upper hu, h.2.2.2.2.2⟩
theorem TL.lies.base {B B' : Nat} {w : World} {x : TL} (h : x.lies B w) (hB : B' ≤ B) : x.lies B' w := ⟨h.1.base hB, fun i hi => (h.2.1 i hi).base hB, h.2.2.1, h.2.2.2.1.base hB, fun i hi => (h.2.2.2.2.1 i hi).base hB, h.2.2.2.2.2⟩
theorem TL.came.below {w w' : World} {x : TL} (h : x.came w) (hb : Below w.heap.size w w') : x.came w' := ⟨h.1.upper (Upper.of_below hb), fun i hi => Cm.below (h.2.1 i hi) hb, h.2.2.1, h.2.2.2.1.upper (Upper.of_below hb), fun i hi => (h.2.2.2.2.1 i hi).below hb, h.2.2.2.2.2⟩
theorem TL.came.lies {w : World} {x : TL} (h : x.came w) (hs : x.small) : x.lies 0 w := ⟨h.1, fun i hi => Cm.bs (h.2.1 i hi) (hs.1.2 i hi), hs.1.1, h.2.2.2.1, fun i hi => (h.2.2.2.2.1 i hi).lies (hs.2.2 i hi), hs.2.1⟩
end Go.Proofs.YtganfiajhokkmaaDoor

/- TreC -/
namespace Go.Proofs.YtganfiajhokkmaaDoor
open Go.RowKit Go.Deep
set_option maxRecDepth 100000

theorem Upper.trans {B : Nat} {w w' w'' : World} (h : Upper B w w') (k : Upper B w' w'') : Upper B w w'' := ⟨Nat.le_trans h.size k.size, fun b h1 h2 => (k.block b h1 (Nat.lt_of_lt_of_le h2 h.size)).trans (h.block b h1 h2)⟩
theorem Upper.mono {B B' : Nat} {w w' : World} (h : Upper B w w') (hB : B ≤ B') : Upper B' w w' := ⟨h.size, fun b h1 h2 => h.block b (by omega) h2⟩
theorem below_sets {w0 : World} (g : Nat) (hg : w0.heap.size ≤ g) : ∀ (vs : List Value) (o : Nat) (w : World), Below w0.heap.size w0 w → Below w0.heap.size w0 (w.setCells g o vs)
  | [], _, _, h => h
  | v :: r, o, _, h => below_sets g hg r (o + 1) _ (h.setCell (p := ⟨g, o, none⟩) hg v)
/-- A box that may be written. -/
def OB (w : World) (b : Nat) (L : List Value) : Prop := b < w.heap.size ∧ ∀ c u, L[c]? = some u → w.cell? ⟨b, c, none⟩ = some u ∧ w.frozen? ⟨b, c, none⟩ = false
theorem OB.new (w : World) (vs : Array Value) (t : TypeId) : OB (w.alloc (.cells vs t)) w.heap.size vs.toList := by
  refine ⟨by simp, fun c u hu => ⟨(Box.new w vs t _).2 c u hu, by simp [go_sem]⟩⟩
theorem OB.below {w w' : World} {b : Nat} {L : List Value} (h : OB w b L) (hb : Below w.heap.size w w') : OB w' b L := ⟨Nat.lt_of_lt_of_le h.1 hb.size, fun c u hu => ⟨(hb.cell (p := ⟨b, c, none⟩) h.1).trans (h.2 c u hu).1, (hb.frozen (p := ⟨b, c, none⟩) h.1).trans (h.2 c u hu).2⟩⟩
theorem OB.set {w : World} {b : Nat} {L : List Value} (h : OB w b L) (c : Nat) (v : Value) : OB (w.setCell ⟨b, c, none⟩ v) b (L.set c v) := by
  refine ⟨by simpa using h.1, fun j u hu => ?_⟩
  by_cases e : c = j
  · subst e
    by_cases hc : c < L.length
    · rw [List.getElem?_set, if_pos rfl, if_pos hc] at hu
      cases hu
      have h2 := h.2 c _ (List.getElem?_eq_getElem hc)
      exact ⟨set_same h2.1, by rw [World.frozen?_setCell]; exact h2.2⟩
    · rw [List.getElem?_eq_none (by rw [List.length_set]; omega)] at hu
      cases hu
  · rw [List.getElem?_set, if_neg e] at hu
    have h2 := h.2 j u hu
    exact ⟨(set_other (fun e' => e e'.symm)).trans h2.1, by rw [World.frozen?_setCell]; exact h2.2⟩
def setL : List Value → Nat → List Value → List Value
  | L, _, [] => L
  | L, o, v :: r => setL (L.set o v) (o + 1) r
theorem OB.sets {b : Nat} : ∀ (vs : List Value) (o : Nat) {w : World} {L : List Value}, OB w b L → OB (w.setCells b o vs) b (setL L o vs)
  | [], _, _, _, h => h
  | v :: r, o, _, _, h => OB.sets r (o + 1) (h.set o v)
theorem OB.upper {B : Nat} {w w' : World} {b : Nat} {L : List Value} (h : OB w b L) (hu : Upper B w w') (hB : B ≤ b) : OB w' b L := ⟨Nat.lt_of_lt_of_le h.1 hu.size, fun c u hc => ⟨(hu.cell hB h.1).trans (h.2 c u hc).1, (World.frozen?_of_block (w := w) (a := ⟨b, c, none⟩) (hu.block b hB h.1)).trans (h.2 c u hc).2⟩⟩
theorem OB.but {w w' : World} {g b : Nat} {L : List Value} (h : OB w b L) (hb : But g w w') (hne : b ≠ g) : OB w' b L := ⟨by rw [hb.size]; exact h.1, fun c u hc => ⟨(hb.cell (p := ⟨b, c, none⟩) hne).trans (h.2 c u hc).1, (World.frozen?_of_block (w := w) (a := ⟨b, c, none⟩) (hb.block b hne)).trans (h.2 c u hc).2⟩⟩
theorem but_trans {g : Nat} {w w' w'' : World} (h : But g w w') (k : But g w' w'') : But g w w'' := ⟨k.os.trans h.os, k.tape.trans h.tape, k.output.trans h.output, k.size.trans h.size, fun b hb => (k.block b hb).trans (h.block b hb)⟩
theorem but_sets (g : Nat) : ∀ (vs : List Value) (o : Nat) (w : World), But g w (w.setCells g o vs)
  | [], _, w => But.refl g w
  | v :: r, o, w => but_trans ((But.refl g w).set o v) (but_sets g r (o + 1) _)
theorem OB.box {w : World} {b : Nat} {L : List Value} (h : OB w b L) : Box w b L := ⟨h.1, fun c u hu => (h.2 c u hu).1⟩
theorem OB.there {w : World} {b : Nat} {L : List Value} (h : OB w b L) (o n : Nat) (hn : o + n ≤ L.length) : w.there b o n := fun j hj => by
  have h2 := h.2 (o + j) _ (List.getElem?_eq_getElem (by omega))
  exact ⟨by rw [h2.1]; rfl, h2.2⟩
theorem Box.upper {B : Nat} {w w' : World} {b : Nat} {L : List Value} (h : Box w b L) (hb : But B w w') (hne : b ≠ B) : Box w' b L := ⟨by rw [hb.size]; exact h.1, fun c u hc => (hb.cell (p := ⟨b, c, none⟩) hne).trans (h.2 c u hc)⟩
/-- Within a function that copies a struct: its argument in a box, the answer's box, the box that is filled. -/
structure TS (w0 W : World) (pc zc oc : List Value) : Prop where
  bl : Below w0.heap.size w0 W
  px : Box W w0.heap.size pc
  rz : OB W (w0.heap.size + 1) zc
  ox : OB W (w0.heap.size + 1 + 1) oc
theorem TS.new (w : World) (pc zc oc : Array Value) (t u v : TypeId) : TS w (((w.alloc (.cells pc t)).alloc (.cells zc u)).alloc (.cells oc v)) pc.toList zc.toList oc.toList := by
  refine ⟨bl_alloc (bl_alloc (bl_a _) _) _, ?_, ?_, ?_⟩
  · exact ((Box.new w pc t _).below (bl_a _)).below (bl_a _)
  · have h := (OB.new (w.alloc (.cells pc t)) zc u).below (bl_a (.cells oc v))
    simpa using h
  · have h := OB.new ((w.alloc (.cells pc t)).alloc (.cells zc u)) oc v
    simpa using h
theorem TS.below {w0 W W' : World} {pc zc oc : List Value} (h : TS w0 W pc zc oc) (hb : Below W.heap.size W W') : TS w0 W' pc zc oc := ⟨bl_trans h.bl hb, h.px.below hb, h.rz.below hb, h.ox.below hb⟩
theorem TS.set {w0 W : World} {pc zc oc : List Value} (h : TS w0 W pc zc oc) (c : Nat) (v : Value) : TS w0 (W.setCell ⟨w0.heap.size + 1 + 1, c, none⟩ v) pc zc (oc.set c v) := by
  have hb : But (w0.heap.size + 1 + 1) W (W.setCell ⟨w0.heap.size + 1 + 1, c, none⟩ v) := (But.refl _ _).set c v
  exact ⟨h.bl.setCell (p := ⟨w0.heap.size + 1 + 1, c, none⟩) (by show w0.heap.size ≤ w0.heap.size + 1 + 1; omega) v, h.px.upper hb (by omega), h.rz.but hb (by omega), h.ox.set c v⟩
theorem TS.sets {w0 W : World} {pc zc oc : List Value} (h : TS w0 W pc zc oc) (o : Nat) (vs : List Value) : TS w0 (W.setCells (w0.heap.size + 1 + 1) o vs) pc zc (setL oc o vs) :=
  ⟨below_sets _ (by omega) vs o W h.bl, h.px.upper (but_sets _ vs o W) (by omega), h.rz.but (but_sets _ vs o W) (by omega), h.ox.sets vs o⟩
theorem TS.base {w0 W : World} {pc zc oc : List Value} (h : TS w0 W pc zc oc) : w0.heap.size + 1 + 1 + 1 ≤ W.heap.size := h.ox.1
theorem results_cell {P : Program} {fn : Func} {tmps : Array Value} {w : World} {a : Nat} {t : TypeId} {ad : Addr} {v : Value} (hf : fn.results = #[.cell a t]) (ht : tmps.getD a undef = .pointer (some ad)) (hl : (loadVar t ad).run P w = .ok v w) : (results fn tmps).run P w = .ok v w := by
  have h2 : tmps[a]?.getD undef = .pointer (some ad) := by simpa using ht
  simp [results, hf, h2, asAddr, hl]
end Go.Proofs.YtganfiajhokkmaaDoor

/- TreE -/
namespace Go.Proofs.YtganfiajhokkmaaDoor
open Go.RowKit Go.Deep
set_option maxRecDepth 100000

def TB.lies (B : Nat) (w : World) (x : TB) : Prop := BsF B w x.sl ∧ x.t.fits
theorem TB.lies.upper {B : Nat} {w w' : World} {x : TB} (h : x.lies B w) (hu : Upper B w w') : x.lies B w' := ⟨h.1.upper hu, h.2⟩
theorem TB.lies.base {B B' : Nat} {w : World} {x : TB} (h : x.lies B w) (hB : B' ≤ B) : x.lies B' w := ⟨h.1.base hB, h.2⟩
end Go.Proofs.YtganfiajhokkmaaDoor

/- TreD -/
namespace Go.Proofs.YtganfiajhokkmaaDoor
open Go.RowKit Go.Deep
set_option maxRecDepth 100000

theorem takeq {P : Program} {md : Region.Mode} {ops : Array Oper} {Q : Exit → Act → World → Prop} {S : World → Prop} {i : Nat} {oi : Oper} {v : Value} {fuel : Nat} {listed : Array Bool} {a : Act} {w : World} (d : Nat) (hi : ops[i]? = some oi) (hd : oi.dst = some d)
    (hs : Region.noSelect ops = true) (hf : Region.free md ops listed i = true) (hr : (Region.ready md ops listed).contains i = true)
    (hQ : ∀ c a w, Q (.panic c) (a.put (some d) v) w → Q (.panic c) a w) (hy : YieldsIf P ops S oi v a) (hS : S w)
    (h : wpAnyH P md ops Q S fuel (listed.setIfInBounds i true) (a.put (some d) v) w) : wpAnyH P md ops Q S (fuel + 1) listed a w :=
  wpAnyH_take hi hs hf hr (by rw [hd]; exact hQ) hy hS (by rw [hd]; exact h)
end Go.Proofs.YtganfiajhokkmaaDoor
