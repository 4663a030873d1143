/- Texts put together: TreA TreB TreC TreE TreD DrwA TreF -/
import Derived.Test.YtidhcbjhggdncaaMk02
import Derived.Test.YtidhcbjhggdncaaMk01
import Derived.Deep.MidRow
import Derived.Deep.RegionHeld3
/- TreA -/
namespace Go.Proofs.Ytidhcbjhggdncaa
open Go.RowKit Go.Deep
set_option maxRecDepth 100000

/-- A text: where it lies and what it holds. -/
structure SL where
  a : Option Addr
  len : Nat
  cap : Nat
  b : List Int
/-- All blocks from B on stay. -/
structure Upper (B : Nat) (w w' : World) : Prop where
  size : w.heap.size ≤ w'.heap.size
  block : ∀ b, B ≤ b → b < w.heap.size → w'.heap[b]? = w.heap[b]?
theorem Upper.cell {B : Nat} {w w' : World} (h : Upper B w w') {b o : Nat} (h1 : B ≤ b) (h2 : b < w.heap.size) : w'.cell? ⟨b, o, none⟩ = w.cell? ⟨b, o, none⟩ := World.cell?_of_block (w := w) (a := ⟨b, o, none⟩) (h.block b h1 h2)
theorem Upper.of_below {B : Nat} {w w' : World} (h : Below w.heap.size w w') : Upper B w w' := ⟨h.size, fun b _ hb => h.block b hb⟩
/-- A text in blocks from B on. -/
def BsF (B : Nat) (w : World) (x : SL) : Prop := Bs w x.a x.len x.b ∧ (x.len = 0 ∨ ∀ p, x.a = some p → B ≤ p.block)
theorem BsF.upper {B : Nat} {w w' : World} {x : SL} (h : BsF B w x) (hu : Upper B w w') : BsF B w' x := by
  obtain ⟨⟨h1, h2, h3, h4⟩, h5⟩ := h
  refine ⟨⟨h1, h2, h3, ?_⟩, h5⟩
  rcases h4 with h4 | ⟨b, off, ha, hlt, hc⟩
  · exact .inl h4
  · by_cases h0 : x.len = 0
    · exact .inl h0
    · have hB : B ≤ b := (h5.resolve_left h0) _ ha
      exact .inr ⟨b, off, ha, Nat.lt_of_lt_of_le hlt hu.size, fun i hi => (hu.cell hB hlt).trans (hc i hi)⟩
theorem BsF.base {B B' : Nat} {w : World} {x : SL} (h : BsF B w x) (hB : B' ≤ B) : BsF B' w x := ⟨h.1, h.2.imp id fun h p hp => Nat.le_trans hB (h p hp)⟩
def TB.sl (x : TB) : SL := ⟨x.t.a, x.t.len, x.t.cap, x.b⟩
/-- Elements of sz cells in a row, in a block from B on. -/
def KRow (B : Nat) (w : World) (sz : Nat) (a : Option Addr) (n : Nat) (C : Nat → List Value) : Prop :=
  n = 0 ∨ ∃ b off, a = some ⟨b, off, none⟩ ∧ B ≤ b ∧ b < w.heap.size ∧ ∀ i, i < n → ∀ c u, (C i)[c]? = some u → w.cell? ⟨b, off + i * sz + c, none⟩ = some u
theorem KRow.upper {B : Nat} {w w' : World} {sz : Nat} {a : Option Addr} {n : Nat} {C : Nat → List Value} (h : KRow B w sz a n C) (hu : Upper B w w') : KRow B w' sz a n C := by
  rcases h with h | ⟨b, off, ha, hB, hlt, hc⟩
  · exact .inl h
  · exact .inr ⟨b, off, ha, hB, Nat.lt_of_lt_of_le hlt hu.size, fun i hi c u hcu => (hu.cell hB hlt).trans (hc i hi c u hcu)⟩
theorem KRow.base {B B' : Nat} {w : World} {sz : Nat} {a : Option Addr} {n : Nat} {C : Nat → List Value} (h : KRow B w sz a n C) (hB : B' ≤ B) : KRow B' w sz a n C := by
  rcases h with h | ⟨b, off, ha, hB', h⟩
  · exact .inl h
  · exact .inr ⟨b, off, ha, Nat.le_trans hB hB', h⟩
/-- A text that came in: where it is not too long its bytes lie there. -/
def Cm (w : World) (x : SL) : Prop := x.len ≤ 9223372036854775807 ∧ (x.len ≤ 1048576 → Bs w x.a x.len x.b)
theorem Cm.below {w w' : World} {x : SL} (h : Cm w x) (hb : Below w.heap.size w w') : Cm w' x := ⟨h.1, fun hs => (h.2 hs).below hb⟩
theorem Cm.bs {w : World} {x : SL} (h : Cm w x) (hs : x.len ≤ 1048576) : BsF 0 w x := ⟨h.2 hs, .inr fun _ _ => Nat.zero_le _⟩

/-- An item. -/
structure IB where
  v : SL
  t : TB
def IB.cells (x : IB) : List Value := [.slice x.v.a x.v.len x.v.cap, .int .i64 x.t.t.k, .slice x.t.t.a x.t.t.len x.t.t.cap, .int .i64 x.t.t.n, .int .i64 x.t.t.s]
def IB.lies (B : Nat) (w : World) (x : IB) : Prop := BsF B w x.v ∧ BsF B w x.t.sl ∧ x.t.t.fits
def IB.came (w : World) (x : IB) : Prop := Cm w x.v ∧ Cm w x.t.sl ∧ x.t.t.fits
def IB.small (x : IB) : Prop := x.v.len ≤ 1048576 ∧ x.t.t.len ≤ 1048576
theorem IB.lies.upper {B : Nat} {w w' : World} {x : IB} (h : x.lies B w) (hu : Upper B w w') : x.lies B w' := ⟨h.1.upper hu, h.2.1.upper hu, h.2.2⟩
theorem IB.lies.base {B B' : Nat} {w : World} {x : IB} (h : x.lies B w) (hB : B' ≤ B) : x.lies B' w := ⟨h.1.base hB, h.2.1.base hB, h.2.2⟩
theorem IB.came.below {w w' : World} {x : IB} (h : x.came w) (hb : Below w.heap.size w w') : x.came w' := ⟨h.1.below hb, h.2.1.below hb, h.2.2⟩
theorem IB.came.lies {w : World} {x : IB} (h : x.came w) (hs : x.small) : x.lies 0 w := ⟨h.1.bs hs.1, h.2.1.bs hs.2, h.2.2⟩
/-- A pattern. -/
structure PB where
  s : IB
  p : IB
  o : IB
def PB.cells (x : PB) : List Value := [.slice x.s.v.a x.s.v.len x.s.v.cap, .int .i64 x.s.t.t.k, .slice x.s.t.t.a x.s.t.t.len x.s.t.t.cap, .int .i64 x.s.t.t.n, .int .i64 x.s.t.t.s,
  .slice x.p.v.a x.p.v.len x.p.v.cap, .int .i64 x.p.t.t.k, .slice x.p.t.t.a x.p.t.t.len x.p.t.t.cap, .int .i64 x.p.t.t.n, .int .i64 x.p.t.t.s,
  .slice x.o.v.a x.o.v.len x.o.v.cap, .int .i64 x.o.t.t.k, .slice x.o.t.t.a x.o.t.t.len x.o.t.t.cap, .int .i64 x.o.t.t.n, .int .i64 x.o.t.t.s]
def PB.lies (B : Nat) (w : World) (x : PB) : Prop := x.s.lies B w ∧ x.p.lies B w ∧ x.o.lies B w
def PB.came (w : World) (x : PB) : Prop := x.s.came w ∧ x.p.came w ∧ x.o.came w
def PB.small (x : PB) : Prop := x.s.small ∧ x.p.small ∧ x.o.small
theorem PB.lies.upper {B : Nat} {w w' : World} {x : PB} (h : x.lies B w) (hu : Upper B w w') : x.lies B w' := ⟨h.1.upper hu, h.2.1.upper hu, h.2.2.upper hu⟩
theorem PB.lies.base {B B' : Nat} {w : World} {x : PB} (h : x.lies B w) (hB : B' ≤ B) : x.lies B' w := ⟨h.1.base hB, h.2.1.base hB, h.2.2.base hB⟩
theorem PB.came.below {w w' : World} {x : PB} (h : x.came w) (hb : Below w.heap.size w w') : x.came w' := ⟨h.1.below hb, h.2.1.below hb, h.2.2.below hb⟩
theorem PB.came.lies {w : World} {x : PB} (h : x.came w) (hs : x.small) : x.lies 0 w := ⟨IB.came.lies h.1 hs.1, IB.came.lies h.2.1 hs.2.1, IB.came.lies h.2.2 hs.2.2⟩

/-- What lies in an expression's own cells. -/
structure EN where
  k : Int
  op : Int
  v : SL
  t : TB
  ka : Option Addr
  kc : Nat
  n : Nat
def EN.cells (d : EN) : List Value := [.int .i64 d.k, .int .i64 d.op, .slice d.v.a d.v.len d.v.cap, .int .i64 d.t.t.k, .slice d.t.t.a d.t.t.len d.t.t.cap, .int .i64 d.t.t.n, .int .i64 d.t.t.s, .slice d.ka d.n d.kc]
def EN0 : EN := ⟨0, 0, ⟨none, 0, 0, []⟩, ⟨⟨0, none, 0, 0, 0, 0⟩, []⟩, none, 0, 0⟩
/-- An expression: of its Kids the first n count (nil: what lies behind them). -/
inductive ET where
  | nil
  | mk (d : EN) (kid : Nat → ET)
def ET.d : ET → EN
  | .nil => EN0
  | .mk d _ => d
def ET.kid : ET → Nat → ET
  | .nil => fun _ => .nil
  | .mk _ f => f
def ET.lies (B : Nat) (w : World) : ET → Prop
  | .nil => False
  | .mk d kid => BsF B w d.v ∧ BsF B w d.t.sl ∧ d.t.t.fits ∧ d.n ≤ 1048576 ∧ KRow B w 8 d.ka d.n (fun i => (kid i).d.cells) ∧ ∀ i, i < d.n → (kid i).lies B w
def ET.came (w : World) : ET → Prop
  | .nil => False
  | .mk d kid => Cm w d.v ∧ Cm w d.t.sl ∧ d.t.t.fits ∧ d.n ≤ 9223372036854775807 ∧ KRow 0 w 8 d.ka d.n (fun i => (kid i).d.cells) ∧ ∀ i, i < d.n → (kid i).came w
def ET.small : ET → Prop
  | .nil => False
  | .mk d kid => d.v.len ≤ 1048576 ∧ d.t.t.len ≤ 1048576 ∧ d.n ≤ 1048576 ∧ ∀ i, i < d.n → (kid i).small
theorem ET.lies.upper {B : Nat} {w w' : World} (hu : Upper B w w') {e : ET} (h : e.lies B w) : e.lies B w' := by
  induction e with
  | nil => exact False.elim h
  | mk d kid ih => exact ⟨h.1.upper hu, h.2.1.upper hu, h.2.2.1, h.2.2.2.1, h.2.2.2.2.1.upper hu, fun i hi => ih i (h.2.2.2.2.2 i hi)⟩
theorem ET.lies.base {B B' : Nat} {w : World} (hB : B' ≤ B) {e : ET} (h : e.lies B w) : e.lies B' w := by
  induction e with
  | nil => exact False.elim h
  | mk d kid ih => exact ⟨h.1.base hB, h.2.1.base hB, h.2.2.1, h.2.2.2.1, h.2.2.2.2.1.base hB, fun i hi => ih i (h.2.2.2.2.2 i hi)⟩
theorem ET.lies.below {B : Nat} {w w' : World} {e : ET} (h : e.lies B w) (hb : Below w.heap.size w w') : e.lies B w' := ET.lies.upper (Upper.of_below hb) h
theorem ET.came.below {w w' : World} (hb : Below w.heap.size w w') {e : ET} (h : e.came w) : e.came w' := by
  induction e with
  | nil => exact False.elim h
  | mk d kid ih => exact ⟨h.1.below hb, h.2.1.below hb, h.2.2.1, h.2.2.2.1, h.2.2.2.2.1.upper (Upper.of_below hb), fun i hi => ih i (h.2.2.2.2.2 i hi)⟩
theorem ET.came.lies {w : World} {e : ET} (h : e.came w) (hs : e.small) : e.lies 0 w := by
  induction e with
  | nil => exact False.elim h
  | mk d kid ih => exact ⟨h.1.bs hs.1, h.2.1.bs hs.2.1, h.2.2.1, hs.2.2.1, h.2.2.2.2.1, fun i hi => ih i (h.2.2.2.2.2 i hi) (hs.2.2.2 i hi)⟩

/-- What lies in an algebra's own cells. -/
structure AN where
  k : Int
  pa : Option Addr
  pc : Nat
  pn : Nat
  pat : Nat → PB
  e : ET
  v : SL
  ta : Option Addr
  tc : Nat
  tb : List TB
  ka : Option Addr
  kc : Nat
  n : Nat
def AN.cells (d : AN) : List Value := [.int .i64 d.k, .slice d.pa d.pn d.pc, .int .i64 d.e.d.k, .int .i64 d.e.d.op, .slice d.e.d.v.a d.e.d.v.len d.e.d.v.cap, .int .i64 d.e.d.t.t.k, .slice d.e.d.t.t.a d.e.d.t.t.len d.e.d.t.t.cap, .int .i64 d.e.d.t.t.n, .int .i64 d.e.d.t.t.s, .slice d.e.d.ka d.e.d.n d.e.d.kc,
  .slice d.v.a d.v.len d.v.cap, .slice d.ta d.tb.length d.tc, .slice d.ka d.n d.kc]
def AN0 : AN := ⟨0, none, 0, 0, fun _ => ⟨⟨⟨none, 0, 0, []⟩, ⟨⟨0, none, 0, 0, 0, 0⟩, []⟩⟩, ⟨⟨none, 0, 0, []⟩, ⟨⟨0, none, 0, 0, 0, 0⟩, []⟩⟩, ⟨⟨none, 0, 0, []⟩, ⟨⟨0, none, 0, 0, 0, 0⟩, []⟩⟩⟩, .nil, ⟨none, 0, 0, []⟩, none, 0, [], none, 0, 0⟩
inductive AT where
  | nil
  | mk (d : AN) (kid : Nat → AT)
def AT.d : AT → AN
  | .nil => AN0
  | .mk d _ => d
def AT.kid : AT → Nat → AT
  | .nil => fun _ => .nil
  | .mk _ f => f
/-- Terms in a row, in blocks from B on. -/
def TRowF (B : Nat) (w : World) (a : Option Addr) (l : List TB) : Prop := TRow w a l ∧ (l = [] ∨ ∀ p, a = some p → B ≤ p.block) ∧ ∀ x ∈ l, BsF B w x.sl ∧ x.t.fits
theorem TRowF.upper {B : Nat} {w w' : World} {a : Option Addr} {l : List TB} (h : TRowF B w a l) (hu : Upper B w w') : TRowF B w' a l := by
  obtain ⟨h1, h2, h3⟩ := h
  refine ⟨?_, h2, fun x hx => ⟨(h3 x hx).1.upper hu, (h3 x hx).2⟩⟩
  rcases h1 with h1 | ⟨b, off, ha, hlt, hc⟩
  · exact .inl h1
  · by_cases h0 : l = []
    · exact .inl h0
    · have hB : B ≤ b := (h2.resolve_left h0) _ ha
      exact .inr ⟨b, off, ha, Nat.lt_of_lt_of_le hlt hu.size, fun j u hju => (hu.cell hB hlt).trans (hc j u hju)⟩
theorem TRowF.base {B B' : Nat} {w : World} {a : Option Addr} {l : List TB} (h : TRowF B w a l) (hB : B' ≤ B) : TRowF B' w a l := ⟨h.1, h.2.1.imp id fun h p hp => Nat.le_trans hB (h p hp), fun x hx => ⟨(h.2.2 x hx).1.base hB, (h.2.2 x hx).2⟩⟩
theorem TRowF.txt {B : Nat} {w : World} {a : Option Addr} {l : List TB} (h : TRowF B w a l) : TTxt w l := fun x hx => (h.2.2 x hx).1.1
def AT.lies (B : Nat) (w : World) : AT → Prop
  | .nil => False
  | .mk d kid => KRow B w 15 d.pa d.pn (fun i => (d.pat i).cells) ∧ (∀ i, i < d.pn → (d.pat i).lies B w) ∧ d.pn ≤ 1048576 ∧ d.e.lies B w ∧ BsF B w d.v ∧ TRowF B w d.ta d.tb ∧ d.tb.length ≤ 1048576 ∧ d.n ≤ 1048576 ∧ KRow B w 13 d.ka d.n (fun i => (kid i).d.cells) ∧ ∀ i, i < d.n → (kid i).lies B w
/-- Terms in a row that came in. -/
def TCm (w : World) (a : Option Addr) (l : List TB) : Prop := TRow w a l ∧ l.length ≤ 9223372036854775807 ∧ ∀ x ∈ l, Cm w x.sl ∧ x.t.fits
theorem TCm.below {w w' : World} {a : Option Addr} {l : List TB} (h : TCm w a l) (hb : Below w.heap.size w w') : TCm w' a l := ⟨h.1.below hb, h.2.1, fun x hx => ⟨(h.2.2 x hx).1.below hb, (h.2.2 x hx).2⟩⟩
theorem TCm.lies {w : World} {a : Option Addr} {l : List TB} (h : TCm w a l) (hs : ∀ x ∈ l, x.t.len ≤ 1048576) : TRowF 0 w a l := ⟨h.1, .inr fun _ _ => Nat.zero_le _, fun x hx => ⟨(h.2.2 x hx).1.bs (hs x hx), (h.2.2 x hx).2⟩⟩
def AT.came (w : World) : AT → Prop
  | .nil => False
  | .mk d kid => KRow 0 w 15 d.pa d.pn (fun i => (d.pat i).cells) ∧ (∀ i, i < d.pn → (d.pat i).came w) ∧ d.pn ≤ 9223372036854775807 ∧ d.e.came w ∧ Cm w d.v ∧ TCm w d.ta d.tb ∧ d.n ≤ 9223372036854775807 ∧ KRow 0 w 13 d.ka d.n (fun i => (kid i).d.cells) ∧ ∀ i, i < d.n → (kid i).came w
def AT.small : AT → Prop
  | .nil => False
  | .mk d kid => d.pn ≤ 1048576 ∧ (∀ i, i < d.pn → (d.pat i).small) ∧ d.e.small ∧ d.v.len ≤ 1048576 ∧ (d.tb.length ≤ 1048576 ∧ ∀ x ∈ d.tb, x.t.len ≤ 1048576) ∧ d.n ≤ 1048576 ∧ ∀ i, i < d.n → (kid i).small
theorem AT.lies.upper {B : Nat} {w w' : World} (hu : Upper B w w') {e : AT} (h : e.lies B w) : e.lies B w' := by
  induction e with
  | nil => exact False.elim h
  | mk d kid ih =>
    obtain ⟨h1, h2, h3, h4, h5, h6, h7, h8, h9, h10⟩ := h
    exact ⟨h1.upper hu, fun i hi => (h2 i hi).upper hu, h3, ET.lies.upper hu h4, h5.upper hu, h6.upper hu, h7, h8, h9.upper hu, fun i hi => ih i (h10 i hi)⟩
theorem AT.lies.base {B B' : Nat} {w : World} (hB : B' ≤ B) {e : AT} (h : e.lies B w) : e.lies B' w := by
  induction e with
  | nil => exact False.elim h
  | mk d kid ih =>
    obtain ⟨h1, h2, h3, h4, h5, h6, h7, h8, h9, h10⟩ := h
    exact ⟨h1.base hB, fun i hi => (h2 i hi).base hB, h3, ET.lies.base hB h4, h5.base hB, h6.base hB, h7, h8, h9.base hB, fun i hi => ih i (h10 i hi)⟩
theorem AT.lies.below {B : Nat} {w w' : World} {e : AT} (h : e.lies B w) (hb : Below w.heap.size w w') : e.lies B w' := AT.lies.upper (Upper.of_below hb) h
theorem AT.came.below {w w' : World} (hb : Below w.heap.size w w') {e : AT} (h : e.came w) : e.came w' := by
  induction e with
  | nil => exact False.elim h
  | mk d kid ih =>
    obtain ⟨h1, h2, h3, h4, h5, h6, h7, h8, h9⟩ := h
    exact ⟨h1.upper (Upper.of_below hb), fun i hi => (h2 i hi).below hb, h3, ET.came.below hb h4, h5.below hb, h6.below hb, h7, h8.upper (Upper.of_below hb), fun i hi => ih i (h9 i hi)⟩
theorem AT.came.lies {w : World} {e : AT} (h : e.came w) (hs : e.small) : e.lies 0 w := by
  induction e with
  | nil => exact False.elim h
  | mk d kid ih =>
    obtain ⟨h1, h2, h3, h4, h5, h6, h7, h8, h9⟩ := h
    obtain ⟨s1, s2, s3, s4, ⟨s5, s6⟩, s7, s8⟩ := hs
    exact ⟨h1, fun i hi => PB.came.lies (h2 i hi) (s2 i hi), s1, ET.came.lies h4 s3, h5.bs s4, h6.lies s6, s5, s7, h8, fun i hi => ih i (h9 i hi) (s8 i hi)⟩

/-- What lies in a plan's own cells. -/
structure PN where
  k : Int
  ord : Int
  p : PB
  e : ET
  v : SL
  ta : Option Addr
  tc : Nat
  tb : List TB
  ka : Option Addr
  kc : Nat
  n : Nat
def PN.cells (d : PN) : List Value := [.int .i64 d.k, .int .i64 d.ord, .slice d.p.s.v.a d.p.s.v.len d.p.s.v.cap, .int .i64 d.p.s.t.t.k, .slice d.p.s.t.t.a d.p.s.t.t.len d.p.s.t.t.cap, .int .i64 d.p.s.t.t.n, .int .i64 d.p.s.t.t.s,
  .slice d.p.p.v.a d.p.p.v.len d.p.p.v.cap, .int .i64 d.p.p.t.t.k, .slice d.p.p.t.t.a d.p.p.t.t.len d.p.p.t.t.cap, .int .i64 d.p.p.t.t.n, .int .i64 d.p.p.t.t.s,
  .slice d.p.o.v.a d.p.o.v.len d.p.o.v.cap, .int .i64 d.p.o.t.t.k, .slice d.p.o.t.t.a d.p.o.t.t.len d.p.o.t.t.cap, .int .i64 d.p.o.t.t.n, .int .i64 d.p.o.t.t.s,
  .int .i64 d.e.d.k, .int .i64 d.e.d.op, .slice d.e.d.v.a d.e.d.v.len d.e.d.v.cap, .int .i64 d.e.d.t.t.k, .slice d.e.d.t.t.a d.e.d.t.t.len d.e.d.t.t.cap, .int .i64 d.e.d.t.t.n, .int .i64 d.e.d.t.t.s, .slice d.e.d.ka d.e.d.n d.e.d.kc,
  .slice d.v.a d.v.len d.v.cap, .slice d.ta d.tb.length d.tc, .slice d.ka d.n d.kc]
def PN0 : PN := ⟨0, 0, ⟨⟨⟨none, 0, 0, []⟩, ⟨⟨0, none, 0, 0, 0, 0⟩, []⟩⟩, ⟨⟨none, 0, 0, []⟩, ⟨⟨0, none, 0, 0, 0, 0⟩, []⟩⟩, ⟨⟨none, 0, 0, []⟩, ⟨⟨0, none, 0, 0, 0, 0⟩, []⟩⟩⟩, .nil, ⟨none, 0, 0, []⟩, none, 0, [], none, 0, 0⟩
inductive PT where
  | nil
  | mk (d : PN) (kid : Nat → PT)
def PT.d : PT → PN
  | .nil => PN0
  | .mk d _ => d
def PT.kid : PT → Nat → PT
  | .nil => fun _ => .nil
  | .mk _ f => f
def PT.lies (B : Nat) (w : World) : PT → Prop
  | .nil => False
  | .mk d kid => d.p.lies B w ∧ d.e.lies B w ∧ BsF B w d.v ∧ TRowF B w d.ta d.tb ∧ d.tb.length ≤ 1048576 ∧ d.n ≤ 1048576 ∧ KRow B w 28 d.ka d.n (fun i => (kid i).d.cells) ∧ ∀ i, i < d.n → (kid i).lies B w
def PT.came (w : World) : PT → Prop
  | .nil => False
  | .mk d kid => d.p.came w ∧ d.e.came w ∧ Cm w d.v ∧ TCm w d.ta d.tb ∧ d.n ≤ 9223372036854775807 ∧ KRow 0 w 28 d.ka d.n (fun i => (kid i).d.cells) ∧ ∀ i, i < d.n → (kid i).came w
def PT.small : PT → Prop
  | .nil => False
  | .mk d kid => d.p.small ∧ d.e.small ∧ d.v.len ≤ 1048576 ∧ (d.tb.length ≤ 1048576 ∧ ∀ x ∈ d.tb, x.t.len ≤ 1048576) ∧ d.n ≤ 1048576 ∧ ∀ i, i < d.n → (kid i).small
theorem PT.lies.upper {B : Nat} {w w' : World} (hu : Upper B w w') {e : PT} (h : e.lies B w) : e.lies B w' := by
  induction e with
  | nil => exact False.elim h
  | mk d kid ih =>
    obtain ⟨h2, h4, h5, h6, h7, h8, h9, h10⟩ := h
    exact ⟨h2.upper hu, ET.lies.upper hu h4, h5.upper hu, h6.upper hu, h7, h8, h9.upper hu, fun i hi => ih i (h10 i hi)⟩
theorem PT.lies.base {B B' : Nat} {w : World} (hB : B' ≤ B) {e : PT} (h : e.lies B w) : e.lies B' w := by
  induction e with
  | nil => exact False.elim h
  | mk d kid ih =>
    obtain ⟨h2, h4, h5, h6, h7, h8, h9, h10⟩ := h
    exact ⟨h2.base hB, ET.lies.base hB h4, h5.base hB, h6.base hB, h7, h8, h9.base hB, fun i hi => ih i (h10 i hi)⟩
theorem PT.lies.below {B : Nat} {w w' : World} {e : PT} (h : e.lies B w) (hb : Below w.heap.size w w') : e.lies B w' := PT.lies.upper (Upper.of_below hb) h
theorem PT.came.below {w w' : World} (hb : Below w.heap.size w w') {e : PT} (h : e.came w) : e.came w' := by
  induction e with
  | nil => exact False.elim h
  | mk d kid ih =>
    obtain ⟨h2, h4, h5, h6, h7, h8, h9⟩ := h
    exact ⟨h2.below hb, ET.came.below hb h4, h5.below hb, h6.below hb, h7, h8.upper (Upper.of_below hb), fun i hi => ih i (h9 i hi)⟩
theorem PT.came.lies {w : World} {e : PT} (h : e.came w) (hs : e.small) : e.lies 0 w := by
  induction e with
  | nil => exact False.elim h
  | mk d kid ih =>
    obtain ⟨h2, h4, h5, h6, h7, h8, h9⟩ := h
    obtain ⟨s2, s3, s4, ⟨s5, s6⟩, s7, s8⟩ := hs
    exact ⟨PB.came.lies h2 s2, ET.came.lies h4 s3, h5.bs s4, h6.lies s6, s5, s7, h8, fun i hi => ih i (h9 i hi) (s8 i hi)⟩
end Go.Proofs.Ytidhcbjhggdncaa

/- TreB -/
namespace Go.Proofs.Ytidhcbjhggdncaa
open Go.RowKit Go.Deep
set_option maxRecDepth 100000

/-- What lies in a box. -/
def Box (w : World) (b : Nat) (L : List Value) : Prop := b < w.heap.size ∧ ∀ c u, L[c]? = some u → w.cell? ⟨b, c, none⟩ = some u
theorem Box.new (w : World) (vs : Array Value) (t : TypeId) (fr : Nat × Nat) : Box (w.alloc (.cells vs t fr)) w.heap.size vs.toList := by
  refine ⟨by simp, fun c u hu => ?_⟩
  rw [Array.getElem?_toList] at hu
  have h : (w.alloc (.cells vs t fr)).heap[w.heap.size]? = some (.cells vs t fr) := by
    show (w.heap.push _)[w.heap.size]? = _
    rw [Array.getElem?_push]
    simp
  simp only [World.cell?, h]
  exact hu
theorem Box.below {w w' : World} {b : Nat} {L : List Value} (h : Box w b L) (hb : Below w.heap.size w w') : Box w' b L := ⟨Nat.lt_of_lt_of_le h.1 hb.size, fun c u hu => (hb.cell (p := ⟨b, c, none⟩) h.1).trans (h.2 c u hu)⟩
/-- A part of a box, read as a whole. -/
theorem Box.range {w : World} {b : Nat} {L : List Value} (h : Box w b L) (c : Nat) (cs : List Value) (hcs : (L.drop c).take cs.length = cs) : w.rangeAt b c cs := by
  intro j v hv
  refine h.2 (c + j) v ?_
  rw [← hcs, List.getElem?_take] at hv
  split at hv
  · rwa [List.getElem?_drop] at hv
  · cases hv
end Go.Proofs.Ytidhcbjhggdncaa

/- TreC -/
namespace Go.Proofs.Ytidhcbjhggdncaa
open Go.RowKit Go.Deep
set_option maxRecDepth 100000

theorem upper_set {w : World} {g i : Nat} (v : Value) : Upper (g + 1) w (w.setCell ⟨g, i, none⟩ v) := by
  have hb : But g w (w.setCell ⟨g, i, none⟩ v) := (But.refl g w).set i v
  exact ⟨by rw [hb.size]; exact Nat.le_refl _, fun b h1 _ => hb.block b (by omega)⟩
theorem Upper.trans {B : Nat} {w w' w'' : World} (h : Upper B w w') (k : Upper B w' w'') : Upper B w w'' := ⟨Nat.le_trans h.size k.size, fun b h1 h2 => (k.block b h1 (Nat.lt_of_lt_of_le h2 h.size)).trans (h.block b h1 h2)⟩
theorem Upper.mono {B B' : Nat} {w w' : World} (h : Upper B w w') (hB : B ≤ B') : Upper B' w w' := ⟨h.size, fun b h1 h2 => h.block b (by omega) h2⟩
theorem upper_sets (g : Nat) : ∀ (vs : List Value) (o : Nat) (w : World), Upper (g + 1) w (w.setCells g o vs)
  | [], _, _ => ⟨Nat.le_refl _, fun _ _ _ => rfl⟩
  | v :: r, o, w => (upper_set v).trans (upper_sets g r (o + 1) (w.setCell ⟨g, o, none⟩ v))
theorem below_sets {w0 : World} (g : Nat) (hg : w0.heap.size ≤ g) : ∀ (vs : List Value) (o : Nat) (w : World), Below w0.heap.size w0 w → Below w0.heap.size w0 (w.setCells g o vs)
  | [], _, _, h => h
  | v :: r, o, _, h => below_sets g hg r (o + 1) _ (h.setCell (p := ⟨g, o, none⟩) hg v)
/-- A box that may be written. -/
def OB (w : World) (b : Nat) (L : List Value) : Prop := b < w.heap.size ∧ ∀ c u, L[c]? = some u → w.cell? ⟨b, c, none⟩ = some u ∧ w.frozen? ⟨b, c, none⟩ = false
theorem OB.new (w : World) (vs : Array Value) (t : TypeId) : OB (w.alloc (.cells vs t)) w.heap.size vs.toList := by
  refine ⟨by simp, fun c u hu => ⟨(Box.new w vs t _).2 c u hu, by simp [go_sem]⟩⟩
theorem OB.below {w w' : World} {b : Nat} {L : List Value} (h : OB w b L) (hb : Below w.heap.size w w') : OB w' b L := ⟨Nat.lt_of_lt_of_le h.1 hb.size, fun c u hu => ⟨(hb.cell (p := ⟨b, c, none⟩) h.1).trans (h.2 c u hu).1, (hb.frozen (p := ⟨b, c, none⟩) h.1).trans (h.2 c u hu).2⟩⟩
theorem OB.set {w : World} {b : Nat} {L : List Value} (h : OB w b L) (c : Nat) (v : Value) : OB (w.setCell ⟨b, c, none⟩ v) b (L.set c v) := by
  refine ⟨by simpa using h.1, fun j u hu => ?_⟩
  by_cases e : c = j
  · subst e
    by_cases hc : c < L.length
    · rw [List.getElem?_set, if_pos rfl, if_pos hc] at hu
      cases hu
      have h2 := h.2 c _ (List.getElem?_eq_getElem hc)
      exact ⟨set_same h2.1, by rw [World.frozen?_setCell]; exact h2.2⟩
    · rw [List.getElem?_eq_none (by rw [List.length_set]; omega)] at hu
      cases hu
  · rw [List.getElem?_set, if_neg e] at hu
    have h2 := h.2 j u hu
    exact ⟨(set_other (fun e' => e e'.symm)).trans h2.1, by rw [World.frozen?_setCell]; exact h2.2⟩
def setL : List Value → Nat → List Value → List Value
  | L, _, [] => L
  | L, o, v :: r => setL (L.set o v) (o + 1) r
theorem OB.sets {b : Nat} : ∀ (vs : List Value) (o : Nat) {w : World} {L : List Value}, OB w b L → OB (w.setCells b o vs) b (setL L o vs)
  | [], _, _, _, h => h
  | v :: r, o, _, _, h => OB.sets r (o + 1) (h.set o v)
theorem OB.upper {B : Nat} {w w' : World} {b : Nat} {L : List Value} (h : OB w b L) (hu : Upper B w w') (hB : B ≤ b) : OB w' b L := ⟨Nat.lt_of_lt_of_le h.1 hu.size, fun c u hc => ⟨(hu.cell hB h.1).trans (h.2 c u hc).1, (World.frozen?_of_block (w := w) (a := ⟨b, c, none⟩) (hu.block b hB h.1)).trans (h.2 c u hc).2⟩⟩
theorem OB.but {w w' : World} {g b : Nat} {L : List Value} (h : OB w b L) (hb : But g w w') (hne : b ≠ g) : OB w' b L := ⟨by rw [hb.size]; exact h.1, fun c u hc => ⟨(hb.cell (p := ⟨b, c, none⟩) hne).trans (h.2 c u hc).1, (World.frozen?_of_block (w := w) (a := ⟨b, c, none⟩) (hb.block b hne)).trans (h.2 c u hc).2⟩⟩
theorem but_trans {g : Nat} {w w' w'' : World} (h : But g w w') (k : But g w' w'') : But g w w'' := ⟨k.os.trans h.os, k.tape.trans h.tape, k.output.trans h.output, k.size.trans h.size, fun b hb => (k.block b hb).trans (h.block b hb)⟩
theorem but_sets (g : Nat) : ∀ (vs : List Value) (o : Nat) (w : World), But g w (w.setCells g o vs)
  | [], _, w => But.refl g w
  | v :: r, o, w => but_trans ((But.refl g w).set o v) (but_sets g r (o + 1) _)
theorem OB.box {w : World} {b : Nat} {L : List Value} (h : OB w b L) : Box w b L := ⟨h.1, fun c u hu => (h.2 c u hu).1⟩
theorem OB.there {w : World} {b : Nat} {L : List Value} (h : OB w b L) (o n : Nat) (hn : o + n ≤ L.length) : w.there b o n := fun j hj => by
  have h2 := h.2 (o + j) _ (List.getElem?_eq_getElem (by omega))
  exact ⟨by rw [h2.1]; rfl, h2.2⟩
theorem Box.upper {B : Nat} {w w' : World} {b : Nat} {L : List Value} (h : Box w b L) (hb : But B w w') (hne : b ≠ B) : Box w' b L := ⟨by rw [hb.size]; exact h.1, fun c u hc => (hb.cell (p := ⟨b, c, none⟩) hne).trans (h.2 c u hc)⟩
/-- Within a function that copies a struct: its argument in a box, the answer's box, the box that is filled. -/
structure TS (w0 W : World) (pc zc oc : List Value) : Prop where
  bl : Below w0.heap.size w0 W
  px : Box W w0.heap.size pc
  rz : OB W (w0.heap.size + 1) zc
  ox : OB W (w0.heap.size + 1 + 1) oc
theorem TS.new (w : World) (pc zc oc : Array Value) (t u v : TypeId) : TS w (((w.alloc (.cells pc t)).alloc (.cells zc u)).alloc (.cells oc v)) pc.toList zc.toList oc.toList := by
  refine ⟨bl_alloc (bl_alloc (bl_a _) _) _, ?_, ?_, ?_⟩
  · exact ((Box.new w pc t _).below (bl_a _)).below (bl_a _)
  · have h := (OB.new (w.alloc (.cells pc t)) zc u).below (bl_a (.cells oc v))
    simpa using h
  · have h := OB.new ((w.alloc (.cells pc t)).alloc (.cells zc u)) oc v
    simpa using h
theorem TS.below {w0 W W' : World} {pc zc oc : List Value} (h : TS w0 W pc zc oc) (hb : Below W.heap.size W W') : TS w0 W' pc zc oc := ⟨bl_trans h.bl hb, h.px.below hb, h.rz.below hb, h.ox.below hb⟩
theorem TS.set {w0 W : World} {pc zc oc : List Value} (h : TS w0 W pc zc oc) (c : Nat) (v : Value) : TS w0 (W.setCell ⟨w0.heap.size + 1 + 1, c, none⟩ v) pc zc (oc.set c v) := by
  have hb : But (w0.heap.size + 1 + 1) W (W.setCell ⟨w0.heap.size + 1 + 1, c, none⟩ v) := (But.refl _ _).set c v
  exact ⟨h.bl.setCell (p := ⟨w0.heap.size + 1 + 1, c, none⟩) (by show w0.heap.size ≤ w0.heap.size + 1 + 1; omega) v, h.px.upper hb (by omega), h.rz.but hb (by omega), h.ox.set c v⟩
theorem TS.sets {w0 W : World} {pc zc oc : List Value} (h : TS w0 W pc zc oc) (o : Nat) (vs : List Value) : TS w0 (W.setCells (w0.heap.size + 1 + 1) o vs) pc zc (setL oc o vs) :=
  ⟨below_sets _ (by omega) vs o W h.bl, h.px.upper (but_sets _ vs o W) (by omega), h.rz.but (but_sets _ vs o W) (by omega), h.ox.sets vs o⟩
theorem TS.base {w0 W : World} {pc zc oc : List Value} (h : TS w0 W pc zc oc) : w0.heap.size + 1 + 1 + 1 ≤ W.heap.size := h.ox.1
theorem results_cell {P : Program} {fn : Func} {tmps : Array Value} {w : World} {a : Nat} {t : TypeId} {ad : Addr} {v : Value} (hf : fn.results = #[.cell a t]) (ht : tmps.getD a undef = .pointer (some ad)) (hl : (loadVar t ad).run P w = .ok v w) : (results fn tmps).run P w = .ok v w := by
  have h2 : tmps[a]?.getD undef = .pointer (some ad) := by simpa using ht
  simp [results, hf, h2, asAddr, hl]
end Go.Proofs.Ytidhcbjhggdncaa

/- TreE -/
namespace Go.Proofs.Ytidhcbjhggdncaa
open Go.RowKit Go.Deep
set_option maxRecDepth 100000

def TB.lies (B : Nat) (w : World) (x : TB) : Prop := BsF B w x.sl ∧ x.t.fits
theorem TB.lies.upper {B : Nat} {w w' : World} {x : TB} (h : x.lies B w) (hu : Upper B w w') : x.lies B w' := ⟨h.1.upper hu, h.2⟩
theorem TB.lies.base {B B' : Nat} {w : World} {x : TB} (h : x.lies B w) (hB : B' ≤ B) : x.lies B' w := ⟨h.1.base hB, h.2⟩
end Go.Proofs.Ytidhcbjhggdncaa

/- TreD -/
namespace Go.Proofs.Ytidhcbjhggdncaa
open Go.RowKit Go.Deep
set_option maxRecDepth 100000

theorem takeq {P : Program} {md : Region.Mode} {ops : Array Oper} {Q : Exit → Act → World → Prop} {S : World → Prop} {i : Nat} {oi : Oper} {v : Value} {fuel : Nat} {listed : Array Bool} {a : Act} {w : World} (d : Nat) (hi : ops[i]? = some oi) (hd : oi.dst = some d)
    (hs : Region.noSelect ops = true) (hf : Region.free md ops listed i = true) (hr : (Region.ready md ops listed).contains i = true)
    (hQ : ∀ c a w, Q (.panic c) (a.put (some d) v) w → Q (.panic c) a w) (hy : YieldsIf P ops S oi v a) (hS : S w)
    (h : wpAnyH P md ops Q S fuel (listed.setIfInBounds i true) (a.put (some d) v) w) : wpAnyH P md ops Q S (fuel + 1) listed a w :=
  wpAnyH_take hi hs hf hr (by rw [hd]; exact hQ) hy hS (by rw [hd]; exact h)
end Go.Proofs.Ytidhcbjhggdncaa

/- DrwA -/
namespace Go.Proofs.Ytidhcbjhggdncaa
open Go.RowKit Go.Deep

/-- A row of bytes that came in, of whatever length. -/
def Code (w : World) (a : Option Addr) (len : Nat) : Prop :=
  len = 0 ∨ ∃ b off, a = some ⟨b, off, none⟩ ∧ b < w.heap.size ∧ ∀ i, i < len → ∃ v, w.cell? ⟨b, off + i, none⟩ = some (.int .u8 v) ∧ 0 ≤ v ∧ v ≤ 255

/-- The cursor c lies in block g; the code is not in it. -/
structure Cur (w : World) (g : Nat) (a : Option Addr) (len cap : Nat) : Prop where
  lt : g < w.heap.size
  c0 : w.cell? ⟨g, 0, none⟩ = some (.slice a len cap)
  c1 : ∃ i : Nat, i ≤ len ∧ w.cell? ⟨g, 1, none⟩ = some (.int .i64 i)
  c2 : ∃ h : Int, w.cell? ⟨g, 2, none⟩ = some (.int .i64 h)
  f1 : w.frozen? ⟨g, 1, none⟩ = false
  f2 : w.frozen? ⟨g, 2, none⟩ = false
  code : len = 0 ∨ ∃ b off, a = some ⟨b, off, none⟩ ∧ b < w.heap.size ∧ b ≠ g ∧ ∀ i, i < len → ∃ v, w.cell? ⟨b, off + i, none⟩ = some (.int .u8 v) ∧ 0 ≤ v ∧ v ≤ 255

/-- All blocks that there were but g are as they were. -/
structure Past (g : Nat) (w w' : World) : Prop where
  os : w'.os = w.os
  tape : w'.tape = w.tape
  output : w'.output = w.output
  size : w.heap.size ≤ w'.heap.size
  block : ∀ b, b < w.heap.size → b ≠ g → w'.heap[b]? = w.heap[b]?
theorem Past.refl (g : Nat) (w : World) : Past g w w := ⟨rfl, rfl, rfl, Nat.le_refl _, fun _ _ _ => rfl⟩
theorem Past.trans {g : Nat} {w w' w'' : World} (h : Past g w w') (k : Past g w' w'') : Past g w w'' :=
  ⟨k.os.trans h.os, k.tape.trans h.tape, k.output.trans h.output, Nat.le_trans h.size k.size, fun b hb hn => (k.block b (Nat.lt_of_lt_of_le hb h.size) hn).trans (h.block b hb hn)⟩
theorem Past.of_below {g : Nat} {w w' : World} (h : Below w.heap.size w w') : Past g w w' := ⟨h.os, h.tape, h.output, h.size, fun b hb _ => h.block b hb⟩
theorem Past.set {g : Nat} {w w' : World} (h : Past g w w') (i : Nat) (v : Value) : Past g w (w'.setCell ⟨g, i, none⟩ v) :=
  ⟨h.os, h.tape, h.output, by simpa using h.size, fun b hb hn => (Below.heap_setCell _ _ _ _ hn).trans (h.block b hb hn)⟩
theorem Past.below {g B : Nat} {w w' : World} (h : Past g w w') (hB : B ≤ g) (hw : B ≤ w.heap.size) : Below B w w' :=
  ⟨h.os, h.tape, h.output, h.size, fun b hb => h.block b (by omega) (by omega)⟩
theorem Past.cell {g : Nat} {w w' : World} (h : Past g w w') {p : Addr} (hp : p.block < w.heap.size) (hn : p.block ≠ g) : w'.cell? p = w.cell? p := World.cell?_of_block (w := w) (h.block p.block hp hn)
theorem Past.frozen {g : Nat} {w w' : World} (h : Past g w w') {p : Addr} (hp : p.block < w.heap.size) (hn : p.block ≠ g) : w'.frozen? p = w.frozen? p := World.frozen?_of_block (w := w) (h.block p.block hp hn)
theorem Cur.below {w w' : World} {g : Nat} {a : Option Addr} {len cap : Nat} (h : Cur w g a len cap) (hb : Below w.heap.size w w') : Cur w' g a len cap := by
  have e : ∀ i, w'.cell? ⟨g, i, none⟩ = w.cell? ⟨g, i, none⟩ := fun i => hb.cell (p := ⟨g, i, none⟩) h.lt
  have f : ∀ i, w'.frozen? ⟨g, i, none⟩ = w.frozen? ⟨g, i, none⟩ := fun i => hb.frozen (p := ⟨g, i, none⟩) h.lt
  refine ⟨Nat.lt_of_lt_of_le h.lt hb.size, (e 0).trans h.c0, ?_, ?_, (f 1).trans h.f1, (f 2).trans h.f2, ?_⟩
  · rw [e 1]; exact h.c1
  · rw [e 2]; exact h.c2
  · rcases h.code with hc | ⟨b, off, ha, hlt, hn, hc⟩
    · exact .inl hc
    · refine .inr ⟨b, off, ha, Nat.lt_of_lt_of_le hlt hb.size, hn, fun i hi => ?_⟩
      rw [hb.cell (p := ⟨b, off + i, none⟩) hlt]
      exact hc i hi

theorem Cur.set2 {w : World} {g : Nat} {a : Option Addr} {len cap : Nat} (h : Cur w g a len cap) (v : Int) : Cur (w.setCell ⟨g, 2, none⟩ (.int .i64 v)) g a len cap := by
  obtain ⟨lt, c0, ⟨i, hi, c1⟩, ⟨h, c2⟩, f1, f2, hcode⟩ := h
  refine ⟨by simpa using lt, ?_, ⟨i, hi, ?_⟩, ⟨v, ?_⟩, ?_, ?_, ?_⟩
  · simp [go_sem, c0]
  · simp [go_sem, c1]
  · simp [go_sem, c2]
  · simp [f1]
  · simp [f2]
  · rcases hcode with hc | ⟨b, off, ha, hlt, hn, hc⟩
    · exact .inl hc
    · refine .inr ⟨b, off, ha, by simpa using hlt, hn, fun j hj => ?_⟩
      rw [World.cell?_of_block (Below.heap_setCell _ _ _ _ (by exact hn))]
      exact hc j hj
theorem Cur.set1 {w : World} {g : Nat} {a : Option Addr} {len cap : Nat} (h : Cur w g a len cap) (i : Nat) (v : Int) (hv : v = i) (hi : i ≤ len) : Cur (w.setCell ⟨g, 1, none⟩ (.int .i64 v)) g a len cap := by
  subst hv
  obtain ⟨lt, c0, ⟨i', hi', c1⟩, ⟨h, c2⟩, f1, f2, hcode⟩ := h
  refine ⟨by simpa using lt, ?_, ⟨i, hi, ?_⟩, ⟨h, ?_⟩, ?_, ?_, ?_⟩
  · simp [go_sem, c0]
  · simp [go_sem, c1]
  · simp [go_sem, c2]
  · simp [f1]
  · simp [f2]
  · rcases hcode with hc | ⟨b, off, ha, hlt, hn, hc⟩
    · exact .inl hc
    · refine .inr ⟨b, off, ha, by simpa using hlt, hn, fun j hj => ?_⟩
      rw [World.cell?_of_block (Below.heap_setCell _ _ _ _ (by exact hn))]
      exact hc j hj
theorem Past.drewN {g : Nat} {w w' : World} (h : Past g w w') (q : Nat) : Past g w (w'.drewN q) := h.trans (Past.of_below (below_drewN (Below.refl _ _) q))
theorem Cur.drewN {w : World} {g : Nat} {a : Option Addr} {len cap : Nat} (h : Cur w g a len cap) (q : Nat) : Cur (w.drewN q) g a len cap := h.below (below_drewN (Below.refl _ _) q)
theorem and255 (x : Int) : 0 ≤ bits BinOp.and IntKind.i64 x 255 ∧ bits BinOp.and IntKind.i64 x 255 ≤ 255 := by
  have h : ∃ n : Nat, n ≤ 255 ∧ bits BinOp.and IntKind.i64 x 255 = IntKind.i64.wrap n := by
    refine ⟨(BitVec.ofInt 64 x &&& BitVec.ofInt 64 255).toNat, ?_, rfl⟩
    rw [BitVec.toNat_and]
    exact Nat.le_trans Nat.and_le_right (by decide)
  obtain ⟨n, hn, e⟩ := h
  rw [e, IntKind.wrap_i64]
  omega

set_option maxHeartbeats 1000000 in
theorem l1Byte_any (g : Nat) (a : Option Addr) (len cap : Nat) (w : World) (hlen : len ≤ 9223372036854775807) (hC : Cur w g a len cap) :
    Calls Try.prog 43 #[.pointer (some ⟨g, 0, none⟩)] w fun e w' => ∃ x : Int, e = .returned (.int .i64 x) ∧ 0 ≤ x ∧ x ≤ 255 ∧ Past g w w' ∧ Cur w' g a len cap := by
  have HC : Hid (Cur w g a len cap) := hC
  obtain ⟨hlt, c0, ⟨i, hi, c1⟩, ⟨h, c2⟩, f1, f2, hcode⟩ := hC
  by_cases hil : i < len
  · obtain ⟨b, off, rfl, hbl, hbn, hcd⟩ := hcode.resolve_left (by omega)
    obtain ⟨v, cv, v0, v1⟩ := hcd i hil
    clear hcd hcode
    go_enter Try.func43, Try.ntmps43
    go_wp2_with fail
    go_quiet (fail)
    go_wp2_with fail
    go_quiet (fail)
    go_wp2_with fail
    go_quiet (fail)
    go_wp2
    go_ret
    exact ⟨_, rfl, (and255 _).1, (and255 _).2, (((Past.refl _ _).set _ _).drewN _).set _ _, ((HC.out.set2 _).drewN _).set1 (i + 1) _ (by omega) (by omega)⟩
  · clear hcode
    go_enter Try.func43, Try.ntmps43
    go_wp2_with fail
    go_quiet (fail)
    go_wp2_with fail
    go_quiet (fail)
    go_wp2
    go_ret
    exact ⟨_, rfl, (and255 _).1, (and255 _).2, ((((Past.refl _ _).set _ _).drewN _).drewN _), (((HC.out.set2 _).drewN _).drewN _)⟩

/-- What a draw below n answers. -/
def Drawn (g : Nat) (a : Option Addr) (len cap : Nat) (w : World) (n : Nat) (e : Ending) (w' : World) : Prop := ∃ x : Nat, e = .returned (.int .i64 x) ∧ x < n ∧ Past g w w' ∧ Cur w' g a len cap
theorem l1Below_any (g : Nat) (a : Option Addr) (len cap n : Nat) (w : World) (hlen : len ≤ 9223372036854775807) (hC : Cur w g a len cap) (h1 : 1 ≤ n) (h2 : n ≤ 256) :
    Calls Try.prog 19 #[.pointer (some ⟨g, 0, none⟩), .int .i64 n] w fun e w' => Drawn g a len cap w n e w' := by
  have B := fun w h => l1Byte_any g a len cap w hlen h
  have HC : Hid (Cur w g a len cap) := hC
  clear hC
  go_enter Try.func19, Try.ntmps19
  go_wp2_with fail
  refine (B _ HC.out).mono ?_
  rintro e w1 ⟨x, rfl, x0, x1, hP, hC1⟩
  clear B HC
  have HP : Hid (Past g w w1) := hP
  have HC1 : Hid (Cur w1 g a len cap) := hC1
  clear hP hC1
  go_wp2
  go_ret
  obtain ⟨y, rfl⟩ : ∃ y : Nat, x = y := ⟨x.toNat, by omega⟩
  refine ⟨y % n, ?_, Nat.mod_lt _ (by omega), HP.out, HC1.out⟩
  show Ending.returned (.int .i64 ((y : Int) % (n : Int))) = _
  rw [Int.natCast_emod]
theorem l1Once_any (g : Nat) (a : Option Addr) (len cap n : Nat) (w : World) (hlen : len ≤ 9223372036854775807) (hC : Cur w g a len cap) (h1 : 1 ≤ n) (h2 : n ≤ 256) :
    Calls Try.prog 18 #[.pointer (some ⟨g, 0, none⟩), .int .i64 n] w fun e w' => ∃ p : Bool, e = .returned (.bool p) ∧ Past g w w' ∧ Cur w' g a len cap := by
  have B := fun w h => l1Below_any g a len cap n w hlen h h1 h2
  have HC : Hid (Cur w g a len cap) := hC
  clear hC
  go_enter Try.func18, Try.ntmps18
  go_wp2_with fail
  refine (B _ HC.out).mono ?_
  rintro e w1 ⟨x, rfl, x1, hP, hC1⟩
  clear B HC
  have HP : Hid (Past g w w1) := hP
  have HC1 : Hid (Cur w1 g a len cap) := hC1
  clear hP hC1
  go_wp2
  go_ret
  exact ⟨_, rfl, HP.out, HC1.out⟩
/-- One of a list of numbers that lies in a block of its own. -/
theorem l1PickInt_any (g lb : Nat) (a : Option Addr) (len cap n : Nat) (L : Nat → Int) (w : World) (hlen : len ≤ 9223372036854775807) (hC : Cur w g a len cap) (h1 : 1 ≤ n) (h2 : n ≤ 256) (hlb : lb < w.heap.size) (hne : lb ≠ g)
    (hL : ∀ i, i < n → w.cell? ⟨lb, i, none⟩ = some (.int .i64 (L i))) :
    Calls Try.prog 44 #[.pointer (some ⟨g, 0, none⟩), .slice (some ⟨lb, 0, none⟩) n n] w fun e w' => ∃ j : Nat, j < n ∧ e = .returned (.int .i64 (L j)) ∧ Past g w w' ∧ Cur w' g a len cap := by
  have B := fun w h => l1Below_any g a len cap n w hlen h h1 h2
  have HC : Hid (Cur w g a len cap) := hC
  have HL : Hid (∀ i, i < n → w.cell? ⟨lb, i, none⟩ = some (.int .i64 (L i))) := hL
  clear hC hL
  go_enter Try.func44, Try.ntmps44
  go_wp2_with fail
  refine (B _ HC.out).mono ?_
  rintro e w1 ⟨x, rfl, x1, hP, hC1⟩
  have hx : w1.cell? ⟨lb, x, none⟩ = some (.int .i64 (L x)) := (hP.cell (p := ⟨lb, x, none⟩) hlb hne).trans (HL.out x x1)
  clear B HC HL
  have HP : Hid (Past g w w1) := hP
  have HC1 : Hid (Cur w1 g a len cap) := hC1
  clear hP hC1
  go_wp2
  go_ret
  exact ⟨x, x1, rfl, HP.out, HC1.out⟩
end Go.Proofs.Ytidhcbjhggdncaa

/- TreF -/
namespace Go.Proofs.Ytidhcbjhggdncaa
open Go.RowKit Go.Deep
set_option maxRecDepth 100000

/-- A yes or no. -/
def Tells (P : Prop) (w : World) (e : Ending) (w' : World) : Prop := ∃ q : Bool, e = .returned (.bool q) ∧ (q = true ↔ P) ∧ Below w.heap.size w w'
theorem Tells.of {P : Prop} {w w' : World} {b : Bool} (h : b = true ↔ P) (hb : Below w.heap.size w w') : Tells P w (.returned (.bool b)) w' := ⟨b, rfl, h, hb⟩
theorem Tells.no {P : Prop} {w w' : World} (h : ¬ P) (hb : Below w.heap.size w w') : Tells P w (.returned (.bool false)) w' := ⟨false, rfl, ⟨fun e => (by cases e), fun hp => absurd hp h⟩, hb⟩
theorem Tells.yes {P : Prop} {w w' : World} (h : P) (hb : Below w.heap.size w w') : Tells P w (.returned (.bool true)) w' := ⟨true, rfl, ⟨fun _ => h, fun _ => rfl⟩, hb⟩

/-- What is zero. -/
def zeroT (x : TD) : Prop := x.k = 0 ∧ x.bs = [] ∧ x.n = 0 ∧ x.s = 0
/-- How many Kids an expression may have. -/
def kOk (k : Int) (n : Nat) : Prop := ((k = 0 ∨ k = 1 ∨ k = 4) ∧ n = 0) ∨ ((k = 3 ∨ k = 7) ∧ n = 1) ∨ (k = 2 ∧ n = 2) ∨ (k = 5 ∧ n = 3) ∨ (k = 6 ∧ 1 ≤ n ∧ n ≤ 4)
/-- What an expression's own cells must be. -/
def nodeOk (d : EN) : Prop := kOk d.k d.n ∧ ((d.k = 0 ∨ d.k = 4) → nameOk d.v.b = true) ∧ (¬ (d.k = 0 ∨ d.k = 4) → d.v.b = []) ∧ (d.k = 1 → d.t.td.ok = true) ∧ (d.k ≠ 1 → zeroT d.t.td) ∧ (0 ≤ d.op ∧ d.op ≤ 7) ∧ (d.k ≠ 2 → d.op = 0)
def sumN : Nat → (Nat → Nat) → Nat
  | 0, _ => 0
  | n + 1, f => sumN n f + f n
def eOk (lim : Int) : ET → Int → Prop
  | .nil, _ => False
  | .mk d kid, deep => deep ≤ lim ∧ nodeOk d ∧ ∀ i, i < d.n → eOk lim (kid i) (deep + 1)
def esz : ET → Nat
  | .nil => 0
  | .mk d kid => 1 + sumN d.n (fun i => esz (kid i))
def zeroE (e : ET) : Prop := e.d.k = 0 ∧ e.d.op = 0 ∧ e.d.v.b = [] ∧ zeroT e.d.t.td ∧ e.d.n = 0
theorem nil_len {b : List Int} {n : Nat} (h : b.length = n) : b = [] ↔ n = 0 := by
  rw [← h]
  exact List.length_eq_zero_iff.symm
theorem name_pos {b : List Int} (h : nameOk b = true) : b ≠ [] := by
  rintro rfl
  simp [nameOk] at h
theorem sumN_mono {n m : Nat} {f : Nat → Nat} (h : n ≤ m) : sumN n f ≤ sumN m f := by
  induction m with
  | zero => rw [show n = 0 by omega]; exact Nat.le_refl _
  | succ m ih =>
    by_cases e : n = m + 1
    · rw [e]; exact Nat.le_refl _
    · have := ih (by omega)
      show sumN n f ≤ sumN m f + f m
      omega
end Go.Proofs.Ytidhcbjhggdncaa
