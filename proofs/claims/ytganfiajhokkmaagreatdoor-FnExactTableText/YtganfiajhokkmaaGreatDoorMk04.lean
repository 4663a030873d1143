/- Texts put together: TreA TreB -/
import Derived.Test.YtganfiajhokkmaaGreatDoorMk03
import Derived.Test.YtganfiajhokkmaaGreatDoorMk01
import Derived.Deep.MidRow
/- TreA -/
namespace Go.Proofs.YtganfiajhokkmaaGreatDoor
open Go.RowKit Go.Deep
set_option maxRecDepth 100000

/-- A text: where it lies and what it holds. -/
structure SL where
  a : Option Addr
  len : Nat
  cap : Nat
  b : List Int
/-- All blocks from B on stay. -/
structure Upper (B : Nat) (w w' : World) : Prop where
  size : w.heap.size ≤ w'.heap.size
  block : ∀ b, B ≤ b → b < w.heap.size → w'.heap[b]? = w.heap[b]?
theorem Upper.cell {B : Nat} {w w' : World} (h : Upper B w w') {b o : Nat} (h1 : B ≤ b) (h2 : b < w.heap.size) : w'.cell? ⟨b, o, none⟩ = w.cell? ⟨b, o, none⟩ := World.cell?_of_block (w := w) (a := ⟨b, o, none⟩) (h.block b h1 h2)
theorem Upper.of_below {B : Nat} {w w' : World} (h : Below w.heap.size w w') : Upper B w w' := ⟨h.size, fun b _ hb => h.block b hb⟩
/-- A text in blocks from B on. -/
def BsF (B : Nat) (w : World) (x : SL) : Prop := Bs w x.a x.len x.b ∧ (x.len = 0 ∨ ∀ p, x.a = some p → B ≤ p.block)
theorem BsF.upper {B : Nat} {w w' : World} {x : SL} (h : BsF B w x) (hu : Upper B w w') : BsF B w' x := by
  obtain ⟨⟨h1, h2, h3, h4⟩, h5⟩ := h
  refine ⟨⟨h1, h2, h3, ?_⟩, h5⟩
  rcases h4 with h4 | ⟨b, off, ha, hlt, hc⟩
  · exact .inl h4
  · by_cases h0 : x.len = 0
    · exact .inl h0
    · have hB : B ≤ b := (h5.resolve_left h0) _ ha
      exact .inr ⟨b, off, ha, Nat.lt_of_lt_of_le hlt hu.size, fun i hi => (hu.cell hB hlt).trans (hc i hi)⟩
theorem BsF.base {B B' : Nat} {w : World} {x : SL} (h : BsF B w x) (hB : B' ≤ B) : BsF B' w x := ⟨h.1, h.2.imp id fun h p hp => Nat.le_trans hB (h p hp)⟩
def TB.sl (x : TB) : SL := ⟨x.t.a, x.t.len, x.t.cap, x.b⟩
/-- Elements of sz cells in a row, in a block from B on. -/
def KRow (B : Nat) (w : World) (sz : Nat) (a : Option Addr) (n : Nat) (C : Nat → List Value) : Prop :=
  n = 0 ∨ ∃ b off, a = some ⟨b, off, none⟩ ∧ B ≤ b ∧ b < w.heap.size ∧ ∀ i, i < n → ∀ c u, (C i)[c]? = some u → w.cell? ⟨b, off + i * sz + c, none⟩ = some u
theorem KRow.upper {B : Nat} {w w' : World} {sz : Nat} {a : Option Addr} {n : Nat} {C : Nat → List Value} (h : KRow B w sz a n C) (hu : Upper B w w') : KRow B w' sz a n C := by
  rcases h with h | ⟨b, off, ha, hB, hlt, hc⟩
  · exact .inl h
  · exact .inr ⟨b, off, ha, hB, Nat.lt_of_lt_of_le hlt hu.size, fun i hi c u hcu => (hu.cell hB hlt).trans (hc i hi c u hcu)⟩
theorem KRow.base {B B' : Nat} {w : World} {sz : Nat} {a : Option Addr} {n : Nat} {C : Nat → List Value} (h : KRow B w sz a n C) (hB : B' ≤ B) : KRow B' w sz a n C := by
  rcases h with h | ⟨b, off, ha, hB', h⟩
  · exact .inl h
  · exact .inr ⟨b, off, ha, Nat.le_trans hB hB', h⟩
/-- A text that came in: where it is not too long its bytes lie there. -/
def Cm (w : World) (x : SL) : Prop := x.len ≤ 9223372036854775807 ∧ (x.len ≤ 1048576 → Bs w x.a x.len x.b)
theorem Cm.below {w w' : World} {x : SL} (h : Cm w x) (hb : Below w.heap.size w w') : Cm w' x := ⟨h.1, fun hs => (h.2 hs).below hb⟩
theorem Cm.bs {w : World} {x : SL} (h : Cm w x) (hs : x.len ≤ 1048576) : BsF 0 w x := ⟨h.2 hs, .inr fun _ _ => Nat.zero_le _⟩

/-- An item. -/
structure IB where
  v : SL
  t : TB
def IB.cells (x : IB) : List Value := [.slice x.v.a x.v.len x.v.cap, .int .i64 x.t.t.k, .slice x.t.t.a x.t.t.len x.t.t.cap, .int .i64 x.t.t.n, .int .i64 x.t.t.s]
def IB.lies (B : Nat) (w : World) (x : IB) : Prop := BsF B w x.v ∧ BsF B w x.t.sl ∧ x.t.t.fits
def IB.came (w : World) (x : IB) : Prop := Cm w x.v ∧ Cm w x.t.sl ∧ x.t.t.fits
def IB.small (x : IB) : Prop := x.v.len ≤ 1048576 ∧ x.t.t.len ≤ 1048576
def IB.same (x y : IB) : Prop := x.v.b = y.v.b ∧ x.t.td = y.t.td
theorem IB.lies.upper {B : Nat} {w w' : World} {x : IB} (h : x.lies B w) (hu : Upper B w w') : x.lies B w' := ⟨h.1.upper hu, h.2.1.upper hu, h.2.2⟩
theorem IB.lies.base {B B' : Nat} {w : World} {x : IB} (h : x.lies B w) (hB : B' ≤ B) : x.lies B' w := ⟨h.1.base hB, h.2.1.base hB, h.2.2⟩
theorem IB.came.below {w w' : World} {x : IB} (h : x.came w) (hb : Below w.heap.size w w') : x.came w' := ⟨h.1.below hb, h.2.1.below hb, h.2.2⟩
theorem IB.came.lies {w : World} {x : IB} (h : x.came w) (hs : x.small) : x.lies 0 w := ⟨h.1.bs hs.1, h.2.1.bs hs.2, h.2.2⟩
/-- A pattern. -/
structure PB where
  s : IB
  p : IB
  o : IB
def PB.cells (x : PB) : List Value := [.slice x.s.v.a x.s.v.len x.s.v.cap, .int .i64 x.s.t.t.k, .slice x.s.t.t.a x.s.t.t.len x.s.t.t.cap, .int .i64 x.s.t.t.n, .int .i64 x.s.t.t.s,
  .slice x.p.v.a x.p.v.len x.p.v.cap, .int .i64 x.p.t.t.k, .slice x.p.t.t.a x.p.t.t.len x.p.t.t.cap, .int .i64 x.p.t.t.n, .int .i64 x.p.t.t.s,
  .slice x.o.v.a x.o.v.len x.o.v.cap, .int .i64 x.o.t.t.k, .slice x.o.t.t.a x.o.t.t.len x.o.t.t.cap, .int .i64 x.o.t.t.n, .int .i64 x.o.t.t.s]
def PB.lies (B : Nat) (w : World) (x : PB) : Prop := x.s.lies B w ∧ x.p.lies B w ∧ x.o.lies B w
def PB.came (w : World) (x : PB) : Prop := x.s.came w ∧ x.p.came w ∧ x.o.came w
def PB.small (x : PB) : Prop := x.s.small ∧ x.p.small ∧ x.o.small
def PB.same (x y : PB) : Prop := x.s.same y.s ∧ x.p.same y.p ∧ x.o.same y.o
theorem PB.lies.upper {B : Nat} {w w' : World} {x : PB} (h : x.lies B w) (hu : Upper B w w') : x.lies B w' := ⟨h.1.upper hu, h.2.1.upper hu, h.2.2.upper hu⟩
theorem PB.lies.base {B B' : Nat} {w : World} {x : PB} (h : x.lies B w) (hB : B' ≤ B) : x.lies B' w := ⟨h.1.base hB, h.2.1.base hB, h.2.2.base hB⟩
theorem PB.came.below {w w' : World} {x : PB} (h : x.came w) (hb : Below w.heap.size w w') : x.came w' := ⟨h.1.below hb, h.2.1.below hb, h.2.2.below hb⟩
theorem PB.came.lies {w : World} {x : PB} (h : x.came w) (hs : x.small) : x.lies 0 w := ⟨IB.came.lies h.1 hs.1, IB.came.lies h.2.1 hs.2.1, IB.came.lies h.2.2 hs.2.2⟩

/-- What lies in an expression's own cells. -/
structure EN where
  k : Int
  op : Int
  v : SL
  t : TB
  ka : Option Addr
  kc : Nat
  n : Nat
def EN.cells (d : EN) : List Value := [.int .i64 d.k, .int .i64 d.op, .slice d.v.a d.v.len d.v.cap, .int .i64 d.t.t.k, .slice d.t.t.a d.t.t.len d.t.t.cap, .int .i64 d.t.t.n, .int .i64 d.t.t.s, .slice d.ka d.n d.kc]
def EN0 : EN := ⟨0, 0, ⟨none, 0, 0, []⟩, ⟨⟨0, none, 0, 0, 0, 0⟩, []⟩, none, 0, 0⟩
/-- An expression: of its Kids the first n count (nil: what lies behind them). -/
inductive ET where
  | nil
  | mk (d : EN) (kid : Nat → ET)
def ET.d : ET → EN
  | .nil => EN0
  | .mk d _ => d
def ET.lies (B : Nat) (w : World) : ET → Prop
  | .nil => False
  | .mk d kid => BsF B w d.v ∧ BsF B w d.t.sl ∧ d.t.t.fits ∧ d.n ≤ 1048576 ∧ KRow B w 8 d.ka d.n (fun i => (kid i).d.cells) ∧ ∀ i, i < d.n → (kid i).lies B w
def ET.came (w : World) : ET → Prop
  | .nil => False
  | .mk d kid => Cm w d.v ∧ Cm w d.t.sl ∧ d.t.t.fits ∧ d.n ≤ 9223372036854775807 ∧ KRow 0 w 8 d.ka d.n (fun i => (kid i).d.cells) ∧ ∀ i, i < d.n → (kid i).came w
def ET.small : ET → Prop
  | .nil => False
  | .mk d kid => d.v.len ≤ 1048576 ∧ d.t.t.len ≤ 1048576 ∧ d.n ≤ 1048576 ∧ ∀ i, i < d.n → (kid i).small
def ET.same : ET → ET → Prop
  | .mk d kid, .mk d' kid' => d.k = d'.k ∧ d.op = d'.op ∧ d.v.b = d'.v.b ∧ d.t.td = d'.t.td ∧ d.n = d'.n ∧ ∀ i, i < d.n → (kid i).same (kid' i)
  | _, _ => False
theorem ET.lies.upper {B : Nat} {w w' : World} (hu : Upper B w w') {e : ET} (h : e.lies B w) : e.lies B w' := by
  induction e with
  | nil => exact False.elim h
  | mk d kid ih => exact ⟨h.1.upper hu, h.2.1.upper hu, h.2.2.1, h.2.2.2.1, h.2.2.2.2.1.upper hu, fun i hi => ih i (h.2.2.2.2.2 i hi)⟩
theorem ET.lies.base {B B' : Nat} {w : World} (hB : B' ≤ B) {e : ET} (h : e.lies B w) : e.lies B' w := by
  induction e with
  | nil => exact False.elim h
  | mk d kid ih => exact ⟨h.1.base hB, h.2.1.base hB, h.2.2.1, h.2.2.2.1, h.2.2.2.2.1.base hB, fun i hi => ih i (h.2.2.2.2.2 i hi)⟩
theorem ET.lies.below {B : Nat} {w w' : World} {e : ET} (h : e.lies B w) (hb : Below w.heap.size w w') : e.lies B w' := ET.lies.upper (Upper.of_below hb) h
theorem ET.came.below {w w' : World} (hb : Below w.heap.size w w') {e : ET} (h : e.came w) : e.came w' := by
  induction e with
  | nil => exact False.elim h
  | mk d kid ih => exact ⟨h.1.below hb, h.2.1.below hb, h.2.2.1, h.2.2.2.1, h.2.2.2.2.1.upper (Upper.of_below hb), fun i hi => ih i (h.2.2.2.2.2 i hi)⟩
theorem ET.came.lies {w : World} {e : ET} (h : e.came w) (hs : e.small) : e.lies 0 w := by
  induction e with
  | nil => exact False.elim h
  | mk d kid ih => exact ⟨h.1.bs hs.1, h.2.1.bs hs.2.1, h.2.2.1, hs.2.2.1, h.2.2.2.2.1, fun i hi => ih i (h.2.2.2.2.2 i hi) (hs.2.2.2 i hi)⟩

/-- What lies in an algebra's own cells. -/
structure AN where
  k : Int
  pa : Option Addr
  pc : Nat
  pn : Nat
  pat : Nat → PB
  e : ET
  v : SL
  ta : Option Addr
  tc : Nat
  tb : List TB
  ka : Option Addr
  kc : Nat
  n : Nat
def AN.cells (d : AN) : List Value := [.int .i64 d.k, .slice d.pa d.pn d.pc, .int .i64 d.e.d.k, .int .i64 d.e.d.op, .slice d.e.d.v.a d.e.d.v.len d.e.d.v.cap, .int .i64 d.e.d.t.t.k, .slice d.e.d.t.t.a d.e.d.t.t.len d.e.d.t.t.cap, .int .i64 d.e.d.t.t.n, .int .i64 d.e.d.t.t.s, .slice d.e.d.ka d.e.d.n d.e.d.kc,
  .slice d.v.a d.v.len d.v.cap, .slice d.ta d.tb.length d.tc, .slice d.ka d.n d.kc]
def AN0 : AN := ⟨0, none, 0, 0, fun _ => ⟨⟨⟨none, 0, 0, []⟩, ⟨⟨0, none, 0, 0, 0, 0⟩, []⟩⟩, ⟨⟨none, 0, 0, []⟩, ⟨⟨0, none, 0, 0, 0, 0⟩, []⟩⟩, ⟨⟨none, 0, 0, []⟩, ⟨⟨0, none, 0, 0, 0, 0⟩, []⟩⟩⟩, .nil, ⟨none, 0, 0, []⟩, none, 0, [], none, 0, 0⟩
inductive AT where
  | nil
  | mk (d : AN) (kid : Nat → AT)
def AT.d : AT → AN
  | .nil => AN0
  | .mk d _ => d
/-- Terms in a row, in blocks from B on. -/
def TRowF (B : Nat) (w : World) (a : Option Addr) (l : List TB) : Prop := TRow w a l ∧ (l = [] ∨ ∀ p, a = some p → B ≤ p.block) ∧ ∀ x ∈ l, BsF B w x.sl ∧ x.t.fits
theorem TRowF.upper {B : Nat} {w w' : World} {a : Option Addr} {l : List TB} (h : TRowF B w a l) (hu : Upper B w w') : TRowF B w' a l := by
  obtain ⟨h1, h2, h3⟩ := h
  refine ⟨?_, h2, fun x hx => ⟨(h3 x hx).1.upper hu, (h3 x hx).2⟩⟩
  rcases h1 with h1 | ⟨b, off, ha, hlt, hc⟩
  · exact .inl h1
  · by_cases h0 : l = []
    · exact .inl h0
    · have hB : B ≤ b := (h2.resolve_left h0) _ ha
      exact .inr ⟨b, off, ha, Nat.lt_of_lt_of_le hlt hu.size, fun j u hju => (hu.cell hB hlt).trans (hc j u hju)⟩
theorem TRowF.base {B B' : Nat} {w : World} {a : Option Addr} {l : List TB} (h : TRowF B w a l) (hB : B' ≤ B) : TRowF B' w a l := ⟨h.1, h.2.1.imp id fun h p hp => Nat.le_trans hB (h p hp), fun x hx => ⟨(h.2.2 x hx).1.base hB, (h.2.2 x hx).2⟩⟩
theorem TRowF.txt {B : Nat} {w : World} {a : Option Addr} {l : List TB} (h : TRowF B w a l) : TTxt w l := fun x hx => (h.2.2 x hx).1.1
def AT.lies (B : Nat) (w : World) : AT → Prop
  | .nil => False
  | .mk d kid => KRow B w 15 d.pa d.pn (fun i => (d.pat i).cells) ∧ (∀ i, i < d.pn → (d.pat i).lies B w) ∧ d.pn ≤ 1048576 ∧ d.e.lies B w ∧ BsF B w d.v ∧ TRowF B w d.ta d.tb ∧ d.tb.length ≤ 1048576 ∧ d.n ≤ 1048576 ∧ KRow B w 13 d.ka d.n (fun i => (kid i).d.cells) ∧ ∀ i, i < d.n → (kid i).lies B w
/-- Terms in a row that came in. -/
def TCm (w : World) (a : Option Addr) (l : List TB) : Prop := TRow w a l ∧ l.length ≤ 9223372036854775807 ∧ ∀ x ∈ l, Cm w x.sl ∧ x.t.fits
theorem TCm.below {w w' : World} {a : Option Addr} {l : List TB} (h : TCm w a l) (hb : Below w.heap.size w w') : TCm w' a l := ⟨h.1.below hb, h.2.1, fun x hx => ⟨(h.2.2 x hx).1.below hb, (h.2.2 x hx).2⟩⟩
theorem TCm.lies {w : World} {a : Option Addr} {l : List TB} (h : TCm w a l) (hs : ∀ x ∈ l, x.t.len ≤ 1048576) : TRowF 0 w a l := ⟨h.1, .inr fun _ _ => Nat.zero_le _, fun x hx => ⟨(h.2.2 x hx).1.bs (hs x hx), (h.2.2 x hx).2⟩⟩
def AT.came (w : World) : AT → Prop
  | .nil => False
  | .mk d kid => KRow 0 w 15 d.pa d.pn (fun i => (d.pat i).cells) ∧ (∀ i, i < d.pn → (d.pat i).came w) ∧ d.pn ≤ 9223372036854775807 ∧ d.e.came w ∧ Cm w d.v ∧ TCm w d.ta d.tb ∧ d.n ≤ 9223372036854775807 ∧ KRow 0 w 13 d.ka d.n (fun i => (kid i).d.cells) ∧ ∀ i, i < d.n → (kid i).came w
def AT.small : AT → Prop
  | .nil => False
  | .mk d kid => d.pn ≤ 1048576 ∧ (∀ i, i < d.pn → (d.pat i).small) ∧ d.e.small ∧ d.v.len ≤ 1048576 ∧ (d.tb.length ≤ 1048576 ∧ ∀ x ∈ d.tb, x.t.len ≤ 1048576) ∧ d.n ≤ 1048576 ∧ ∀ i, i < d.n → (kid i).small
def AT.same : AT → AT → Prop
  | .mk d kid, .mk d' kid' => d.k = d'.k ∧ d.pn = d'.pn ∧ (∀ i, i < d.pn → (d.pat i).same (d'.pat i)) ∧ d.e.same d'.e ∧ d.v.b = d'.v.b ∧ d.tb.map TB.td = d'.tb.map TB.td ∧ d.n = d'.n ∧ ∀ i, i < d.n → (kid i).same (kid' i)
  | _, _ => False
theorem AT.lies.upper {B : Nat} {w w' : World} (hu : Upper B w w') {e : AT} (h : e.lies B w) : e.lies B w' := by
  induction e with
  | nil => exact False.elim h
  | mk d kid ih =>
    obtain ⟨h1, h2, h3, h4, h5, h6, h7, h8, h9, h10⟩ := h
    exact ⟨h1.upper hu, fun i hi => (h2 i hi).upper hu, h3, ET.lies.upper hu h4, h5.upper hu, h6.upper hu, h7, h8, h9.upper hu, fun i hi => ih i (h10 i hi)⟩
theorem AT.lies.base {B B' : Nat} {w : World} (hB : B' ≤ B) {e : AT} (h : e.lies B w) : e.lies B' w := by
  induction e with
  | nil => exact False.elim h
  | mk d kid ih =>
    obtain ⟨h1, h2, h3, h4, h5, h6, h7, h8, h9, h10⟩ := h
    exact ⟨h1.base hB, fun i hi => (h2 i hi).base hB, h3, ET.lies.base hB h4, h5.base hB, h6.base hB, h7, h8, h9.base hB, fun i hi => ih i (h10 i hi)⟩
theorem AT.lies.below {B : Nat} {w w' : World} {e : AT} (h : e.lies B w) (hb : Below w.heap.size w w') : e.lies B w' := AT.lies.upper (Upper.of_below hb) h
theorem AT.came.below {w w' : World} (hb : Below w.heap.size w w') {e : AT} (h : e.came w) : e.came w' := by
  induction e with
  | nil => exact False.elim h
  | mk d kid ih =>
    obtain ⟨h1, h2, h3, h4, h5, h6, h7, h8, h9⟩ := h
    exact ⟨h1.upper (Upper.of_below hb), fun i hi => (h2 i hi).below hb, h3, ET.came.below hb h4, h5.below hb, h6.below hb, h7, h8.upper (Upper.of_below hb), fun i hi => ih i (h9 i hi)⟩
theorem AT.came.lies {w : World} {e : AT} (h : e.came w) (hs : e.small) : e.lies 0 w := by
  induction e with
  | nil => exact False.elim h
  | mk d kid ih =>
    obtain ⟨h1, h2, h3, h4, h5, h6, h7, h8, h9⟩ := h
    obtain ⟨s1, s2, s3, s4, ⟨s5, s6⟩, s7, s8⟩ := hs
    exact ⟨h1, fun i hi => PB.came.lies (h2 i hi) (s2 i hi), s1, ET.came.lies h4 s3, h5.bs s4, h6.lies s6, s5, s7, h8, fun i hi => ih i (h9 i hi) (s8 i hi)⟩

/-- What lies in a plan's own cells. -/
structure PN where
  k : Int
  ord : Int
  p : PB
  e : ET
  v : SL
  ta : Option Addr
  tc : Nat
  tb : List TB
  ka : Option Addr
  kc : Nat
  n : Nat
def PN.cells (d : PN) : List Value := [.int .i64 d.k, .int .i64 d.ord, .slice d.p.s.v.a d.p.s.v.len d.p.s.v.cap, .int .i64 d.p.s.t.t.k, .slice d.p.s.t.t.a d.p.s.t.t.len d.p.s.t.t.cap, .int .i64 d.p.s.t.t.n, .int .i64 d.p.s.t.t.s,
  .slice d.p.p.v.a d.p.p.v.len d.p.p.v.cap, .int .i64 d.p.p.t.t.k, .slice d.p.p.t.t.a d.p.p.t.t.len d.p.p.t.t.cap, .int .i64 d.p.p.t.t.n, .int .i64 d.p.p.t.t.s,
  .slice d.p.o.v.a d.p.o.v.len d.p.o.v.cap, .int .i64 d.p.o.t.t.k, .slice d.p.o.t.t.a d.p.o.t.t.len d.p.o.t.t.cap, .int .i64 d.p.o.t.t.n, .int .i64 d.p.o.t.t.s,
  .int .i64 d.e.d.k, .int .i64 d.e.d.op, .slice d.e.d.v.a d.e.d.v.len d.e.d.v.cap, .int .i64 d.e.d.t.t.k, .slice d.e.d.t.t.a d.e.d.t.t.len d.e.d.t.t.cap, .int .i64 d.e.d.t.t.n, .int .i64 d.e.d.t.t.s, .slice d.e.d.ka d.e.d.n d.e.d.kc,
  .slice d.v.a d.v.len d.v.cap, .slice d.ta d.tb.length d.tc, .slice d.ka d.n d.kc]
def PN0 : PN := ⟨0, 0, ⟨⟨⟨none, 0, 0, []⟩, ⟨⟨0, none, 0, 0, 0, 0⟩, []⟩⟩, ⟨⟨none, 0, 0, []⟩, ⟨⟨0, none, 0, 0, 0, 0⟩, []⟩⟩, ⟨⟨none, 0, 0, []⟩, ⟨⟨0, none, 0, 0, 0, 0⟩, []⟩⟩⟩, .nil, ⟨none, 0, 0, []⟩, none, 0, [], none, 0, 0⟩
inductive PT where
  | nil
  | mk (d : PN) (kid : Nat → PT)
def PT.d : PT → PN
  | .nil => PN0
  | .mk d _ => d
def PT.lies (B : Nat) (w : World) : PT → Prop
  | .nil => False
  | .mk d kid => d.p.lies B w ∧ d.e.lies B w ∧ BsF B w d.v ∧ TRowF B w d.ta d.tb ∧ d.tb.length ≤ 1048576 ∧ d.n ≤ 1048576 ∧ KRow B w 28 d.ka d.n (fun i => (kid i).d.cells) ∧ ∀ i, i < d.n → (kid i).lies B w
def PT.came (w : World) : PT → Prop
  | .nil => False
  | .mk d kid => d.p.came w ∧ d.e.came w ∧ Cm w d.v ∧ TCm w d.ta d.tb ∧ d.n ≤ 9223372036854775807 ∧ KRow 0 w 28 d.ka d.n (fun i => (kid i).d.cells) ∧ ∀ i, i < d.n → (kid i).came w
def PT.small : PT → Prop
  | .nil => False
  | .mk d kid => d.p.small ∧ d.e.small ∧ d.v.len ≤ 1048576 ∧ (d.tb.length ≤ 1048576 ∧ ∀ x ∈ d.tb, x.t.len ≤ 1048576) ∧ d.n ≤ 1048576 ∧ ∀ i, i < d.n → (kid i).small
def PT.same : PT → PT → Prop
  | .mk d kid, .mk d' kid' => d.k = d'.k ∧ d.ord = d'.ord ∧ d.p.same d'.p ∧ d.e.same d'.e ∧ d.v.b = d'.v.b ∧ d.tb.map TB.td = d'.tb.map TB.td ∧ d.n = d'.n ∧ ∀ i, i < d.n → (kid i).same (kid' i)
  | _, _ => False
theorem PT.lies.upper {B : Nat} {w w' : World} (hu : Upper B w w') {e : PT} (h : e.lies B w) : e.lies B w' := by
  induction e with
  | nil => exact False.elim h
  | mk d kid ih =>
    obtain ⟨h2, h4, h5, h6, h7, h8, h9, h10⟩ := h
    exact ⟨h2.upper hu, ET.lies.upper hu h4, h5.upper hu, h6.upper hu, h7, h8, h9.upper hu, fun i hi => ih i (h10 i hi)⟩
theorem PT.lies.base {B B' : Nat} {w : World} (hB : B' ≤ B) {e : PT} (h : e.lies B w) : e.lies B' w := by
  induction e with
  | nil => exact False.elim h
  | mk d kid ih =>
    obtain ⟨h2, h4, h5, h6, h7, h8, h9, h10⟩ := h
    exact ⟨h2.base hB, ET.lies.base hB h4, h5.base hB, h6.base hB, h7, h8, h9.base hB, fun i hi => ih i (h10 i hi)⟩
theorem PT.lies.below {B : Nat} {w w' : World} {e : PT} (h : e.lies B w) (hb : Below w.heap.size w w') : e.lies B w' := PT.lies.upper (Upper.of_below hb) h
theorem PT.came.below {w w' : World} (hb : Below w.heap.size w w') {e : PT} (h : e.came w) : e.came w' := by
  induction e with
  | nil => exact False.elim h
  | mk d kid ih =>
    obtain ⟨h2, h4, h5, h6, h7, h8, h9⟩ := h
    exact ⟨h2.below hb, ET.came.below hb h4, h5.below hb, h6.below hb, h7, h8.upper (Upper.of_below hb), fun i hi => ih i (h9 i hi)⟩
theorem PT.came.lies {w : World} {e : PT} (h : e.came w) (hs : e.small) : e.lies 0 w := by
  induction e with
  | nil => exact False.elim h
  | mk d kid ih =>
    obtain ⟨h2, h4, h5, h6, h7, h8, h9⟩ := h
    obtain ⟨s2, s3, s4, ⟨s5, s6⟩, s7, s8⟩ := hs
    exact ⟨PB.came.lies h2 s2, ET.came.lies h4 s3, h5.bs s4, h6.lies s6, s5, s7, h8, fun i hi => ih i (h9 i hi) (s8 i hi)⟩
end Go.Proofs.YtganfiajhokkmaaGreatDoor

/- TreB -/
namespace Go.Proofs.YtganfiajhokkmaaGreatDoor
open Go.RowKit Go.Deep
set_option maxRecDepth 100000

/-- What measuring answers: -1, or what is left, and then all is small. -/
def Sz (P : Prop) (e : Ending) : Prop := ∃ r : Int, e = .returned (.int .i64 r) ∧ (r = -1 ∨ 0 ≤ r ∧ r ≤ 1048576 ∧ P)
/-- What lies in a box. -/
def Box (w : World) (b : Nat) (L : List Value) : Prop := b < w.heap.size ∧ ∀ c u, L[c]? = some u → w.cell? ⟨b, c, none⟩ = some u
theorem Box.new (w : World) (vs : Array Value) (t : TypeId) (fr : Nat × Nat) : Box (w.alloc (.cells vs t fr)) w.heap.size vs.toList := by
  refine ⟨by simp, fun c u hu => ?_⟩
  rw [Array.getElem?_toList] at hu
  have h : (w.alloc (.cells vs t fr)).heap[w.heap.size]? = some (.cells vs t fr) := by
    show (w.heap.push _)[w.heap.size]? = _
    rw [Array.getElem?_push]
    simp
  simp only [World.cell?, h]
  exact hu
theorem Box.below {w w' : World} {b : Nat} {L : List Value} (h : Box w b L) (hb : Below w.heap.size w w') : Box w' b L := ⟨Nat.lt_of_lt_of_le h.1 hb.size, fun c u hu => (hb.cell (p := ⟨b, c, none⟩) h.1).trans (h.2 c u hu)⟩
/-- A part of a box, read as a whole. -/
theorem Box.range {w : World} {b : Nat} {L : List Value} (h : Box w b L) (c : Nat) (cs : List Value) (hcs : (L.drop c).take cs.length = cs) : w.rangeAt b c cs := by
  intro j v hv
  refine h.2 (c + j) v ?_
  rw [← hcs, List.getElem?_take] at hv
  split at hv
  · rwa [List.getElem?_drop] at hv
  · cases hv
theorem szByteS_sz (x : SL) (l : Int) (w : World) (h1 : 0 ≤ l) (h2 : l ≤ 1048576) (h3 : x.len ≤ 9223372036854775807) :
    Calls Tryz.prog 30 #[.slice x.a x.len x.cap, .int .i64 l] w fun e w' => Sz (x.len ≤ 1048576) e ∧ Below w.heap.size w w' := by
  refine (szByteS_any x.a x.len x.cap l w h1 h2 h3).mono ?_
  rintro e w' ⟨rfl, rfl⟩
  refine ⟨⟨_, rfl, ?_⟩, Below.refl _ _⟩
  by_cases h : l < x.len
  · exact .inl (if_pos h)
  · rw [if_neg h]
    exact .inr ⟨by omega, by omega, by omega⟩
theorem szTerm_sz (x : TB) (l : Int) (w : World) (h1 : 0 ≤ l) (h2 : l ≤ 1048576) (h3 : x.t.len ≤ 9223372036854775807) :
    Calls Tryz.prog 84 #[.agg #[.int .i64 x.t.k, .slice x.t.a x.t.len x.t.cap, .int .i64 x.t.n, .int .i64 x.t.s], .int .i64 l] w fun e w' => Sz (x.t.len ≤ 1048576) e ∧ Below w.heap.size w w' := by
  refine (szTerm_any x.t.k x.t.n x.t.s x.t.a x.t.len x.t.cap l w h1 h2 h3).mono ?_
  rintro e w' ⟨rfl, hb⟩
  refine ⟨⟨_, rfl, ?_⟩, hb⟩
  unfold leftOf
  by_cases h : l < x.t.len
  · exact .inl (if_pos h)
  · rw [if_neg h]
    exact .inr ⟨by omega, by omega, by omega⟩

end Go.Proofs.YtganfiajhokkmaaGreatDoor
