import Derived.Test.YthljoojcpbignaaGreatDoorMk03
import Derived.Test.YthljoojcpbignaaGreatDoorMk01
import Derived.Test.YthljoojcpbignaaGreatDoorMk02
namespace Go.Proofs.YthljoojcpbignaaGreatDoor
/- UtA -/
open Go.RowKit Go.Deep
set_option maxHeartbeats 40000000
set_option maxRecDepth 100000
structure UN where
 k : Int
 p : PB
 e : ET
 v : SL
 ta : Option Addr
 tc : Nat
 tb : List TB
 aa : Option Addr
 ac : Nat
 an : Nat
 ba : Option Addr
 bc : Nat
 bn : Nat
def UN.cells (d : UN) : List Value := [.int .i64 d.k, .slice d.p.s.v.a d.p.s.v.len d.p.s.v.cap, .int .i64 d.p.s.t.t.k, .slice d.p.s.t.t.a d.p.s.t.t.len d.p.s.t.t.cap, .int .i64 d.p.s.t.t.n, .int .i64 d.p.s.t.t.s, .slice d.p.p.v.a d.p.p.v.len d.p.p.v.cap, .int .i64 d.p.p.t.t.k, .slice d.p.p.t.t.a d.p.p.t.t.len d.p.p.t.t.cap, .int .i64 d.p.p.t.t.n, .int .i64 d.p.p.t.t.s, .slice d.p.o.v.a d.p.o.v.len d.p.o.v.cap, .int .i64 d.p.o.t.t.k, .slice d.p.o.t.t.a d.p.o.t.t.len d.p.o.t.t.cap, .int .i64 d.p.o.t.t.n, .int .i64 d.p.o.t.t.s, .int .i64 d.e.d.k, .int .i64 d.e.d.op, .slice d.e.d.v.a d.e.d.v.len d.e.d.v.cap, .int .i64 d.e.d.t.t.k, .slice d.e.d.t.t.a d.e.d.t.t.len d.e.d.t.t.cap, .int .i64 d.e.d.t.t.n, .int .i64 d.e.d.t.t.s, .slice d.e.d.ka d.e.d.n d.e.d.kc, .slice d.v.a d.v.len d.v.cap, .slice d.ta d.tb.length d.tc, .slice d.aa d.an d.ac, .slice d.ba d.bn d.bc]
abbrev UN.cl (d : UN) : List Value := [.int .i64 d.k, .slice d.p.s.v.a d.p.s.v.len d.p.s.v.cap, .int .i64 d.p.s.t.t.k, .slice d.p.s.t.t.a d.p.s.t.t.len d.p.s.t.t.cap, .int .i64 d.p.s.t.t.n, .int .i64 d.p.s.t.t.s, .slice d.p.p.v.a d.p.p.v.len d.p.p.v.cap, .int .i64 d.p.p.t.t.k, .slice d.p.p.t.t.a d.p.p.t.t.len d.p.p.t.t.cap, .int .i64 d.p.p.t.t.n, .int .i64 d.p.p.t.t.s, .slice d.p.o.v.a d.p.o.v.len d.p.o.v.cap, .int .i64 d.p.o.t.t.k, .slice d.p.o.t.t.a d.p.o.t.t.len d.p.o.t.t.cap, .int .i64 d.p.o.t.t.n, .int .i64 d.p.o.t.t.s, .int .i64 d.e.d.k, .int .i64 d.e.d.op, .slice d.e.d.v.a d.e.d.v.len d.e.d.v.cap, .int .i64 d.e.d.t.t.k, .slice d.e.d.t.t.a d.e.d.t.t.len d.e.d.t.t.cap, .int .i64 d.e.d.t.t.n, .int .i64 d.e.d.t.t.s, .slice d.e.d.ka d.e.d.n d.e.d.kc, .slice d.v.a d.v.len d.v.cap, .slice d.ta d.tb.length d.tc, .slice d.aa d.an d.ac, .slice d.ba d.bn d.bc]
abbrev UN.ar (d : UN) : Array Value := #[.int .i64 d.k, .slice d.p.s.v.a d.p.s.v.len d.p.s.v.cap, .int .i64 d.p.s.t.t.k, .slice d.p.s.t.t.a d.p.s.t.t.len d.p.s.t.t.cap, .int .i64 d.p.s.t.t.n, .int .i64 d.p.s.t.t.s, .slice d.p.p.v.a d.p.p.v.len d.p.p.v.cap, .int .i64 d.p.p.t.t.k, .slice d.p.p.t.t.a d.p.p.t.t.len d.p.p.t.t.cap, .int .i64 d.p.p.t.t.n, .int .i64 d.p.p.t.t.s, .slice d.p.o.v.a d.p.o.v.len d.p.o.v.cap, .int .i64 d.p.o.t.t.k, .slice d.p.o.t.t.a d.p.o.t.t.len d.p.o.t.t.cap, .int .i64 d.p.o.t.t.n, .int .i64 d.p.o.t.t.s, .int .i64 d.e.d.k, .int .i64 d.e.d.op, .slice d.e.d.v.a d.e.d.v.len d.e.d.v.cap, .int .i64 d.e.d.t.t.k, .slice d.e.d.t.t.a d.e.d.t.t.len d.e.d.t.t.cap, .int .i64 d.e.d.t.t.n, .int .i64 d.e.d.t.t.s, .slice d.e.d.ka d.e.d.n d.e.d.kc, .slice d.v.a d.v.len d.v.cap, .slice d.ta d.tb.length d.tc, .slice d.aa d.an d.ac, .slice d.ba d.bn d.bc]
abbrev UN.ck (d : UN) (k : Int) : List Value := [.int .i64 k, .slice d.p.s.v.a d.p.s.v.len d.p.s.v.cap, .int .i64 d.p.s.t.t.k, .slice d.p.s.t.t.a d.p.s.t.t.len d.p.s.t.t.cap, .int .i64 d.p.s.t.t.n, .int .i64 d.p.s.t.t.s, .slice d.p.p.v.a d.p.p.v.len d.p.p.v.cap, .int .i64 d.p.p.t.t.k, .slice d.p.p.t.t.a d.p.p.t.t.len d.p.p.t.t.cap, .int .i64 d.p.p.t.t.n, .int .i64 d.p.p.t.t.s, .slice d.p.o.v.a d.p.o.v.len d.p.o.v.cap, .int .i64 d.p.o.t.t.k, .slice d.p.o.t.t.a d.p.o.t.t.len d.p.o.t.t.cap, .int .i64 d.p.o.t.t.n, .int .i64 d.p.o.t.t.s, .int .i64 d.e.d.k, .int .i64 d.e.d.op, .slice d.e.d.v.a d.e.d.v.len d.e.d.v.cap, .int .i64 d.e.d.t.t.k, .slice d.e.d.t.t.a d.e.d.t.t.len d.e.d.t.t.cap, .int .i64 d.e.d.t.t.n, .int .i64 d.e.d.t.t.s, .slice d.e.d.ka d.e.d.n d.e.d.kc, .slice d.v.a d.v.len d.v.cap, .slice d.ta d.tb.length d.tc, .slice d.aa d.an d.ac, .slice d.ba d.bn d.bc]
abbrev UN.ca (d : UN) (k : Int) : Array Value := #[.int .i64 k, .slice d.p.s.v.a d.p.s.v.len d.p.s.v.cap, .int .i64 d.p.s.t.t.k, .slice d.p.s.t.t.a d.p.s.t.t.len d.p.s.t.t.cap, .int .i64 d.p.s.t.t.n, .int .i64 d.p.s.t.t.s, .slice d.p.p.v.a d.p.p.v.len d.p.p.v.cap, .int .i64 d.p.p.t.t.k, .slice d.p.p.t.t.a d.p.p.t.t.len d.p.p.t.t.cap, .int .i64 d.p.p.t.t.n, .int .i64 d.p.p.t.t.s, .slice d.p.o.v.a d.p.o.v.len d.p.o.v.cap, .int .i64 d.p.o.t.t.k, .slice d.p.o.t.t.a d.p.o.t.t.len d.p.o.t.t.cap, .int .i64 d.p.o.t.t.n, .int .i64 d.p.o.t.t.s, .int .i64 d.e.d.k, .int .i64 d.e.d.op, .slice d.e.d.v.a d.e.d.v.len d.e.d.v.cap, .int .i64 d.e.d.t.t.k, .slice d.e.d.t.t.a d.e.d.t.t.len d.e.d.t.t.cap, .int .i64 d.e.d.t.t.n, .int .i64 d.e.d.t.t.s, .slice d.e.d.ka d.e.d.n d.e.d.kc, .slice d.v.a d.v.len d.v.cap, .slice d.ta d.tb.length d.tc, .slice d.aa d.an d.ac, .slice d.ba d.bn d.bc]
def UN0 : UN := ⟨0, ⟨⟨⟨none, 0, 0, []⟩, ⟨⟨0, none, 0, 0, 0, 0⟩, []⟩⟩, ⟨⟨none, 0, 0, []⟩, ⟨⟨0, none, 0, 0, 0, 0⟩, []⟩⟩, ⟨⟨none, 0, 0, []⟩, ⟨⟨0, none, 0, 0, 0, 0⟩, []⟩⟩⟩, .nil, ⟨none, 0, 0, []⟩, none, 0, [], none, 0, 0, none, 0, 0⟩
inductive UT where
 | nil
 | mk (d : UN) (ka : Nat → UT) (kb : Nat → UT)
def UT.d : UT → UN
 | .nil => UN0
 | .mk d _ _ => d
def UT.ka : UT → Nat → UT
 | .nil => fun _ => .nil
 | .mk _ f _ => f
def UT.kb : UT → Nat → UT
 | .nil => fun _ => .nil
 | .mk _ _ f => f
def UT.lies (B : Nat) (w : World) : UT → Prop
 | .nil => False
 | .mk d ka kb => d.p.lies B w ∧ d.e.lies B w ∧ BsF B w d.v ∧ TRowF B w d.ta d.tb ∧ d.tb.length ≤ 1048576 ∧ (d.an ≤ 1048576 ∧ KRow B w 28 d.aa d.an (fun i => (ka i).d.cells)) ∧ (d.bn ≤ 1048576 ∧ KRow B w 28 d.ba d.bn (fun i => (kb i).d.cells)) ∧ (∀ i, i < d.an → (ka i).lies B w) ∧ ∀ i, i < d.bn → (kb i).lies B w
def UT.came (w : World) : UT → Prop
 | .nil => False
 | .mk d ka kb => d.p.came w ∧ d.e.came w ∧ Cm w d.v ∧ TCm w d.ta d.tb ∧ (d.an ≤ 9223372036854775807 ∧ KRow 0 w 28 d.aa d.an (fun i => (ka i).d.cells)) ∧ (d.bn ≤ 9223372036854775807 ∧ KRow 0 w 28 d.ba d.bn (fun i => (kb i).d.cells)) ∧ (∀ i, i < d.an → (ka i).came w) ∧ ∀ i, i < d.bn → (kb i).came w
def UT.small : UT → Prop
 | .nil => False
 | .mk d ka kb => d.p.small ∧ d.e.small ∧ d.v.len ≤ 1048576 ∧ (d.tb.length ≤ 1048576 ∧ ∀ x ∈ d.tb, x.t.len ≤ 1048576) ∧ (d.an ≤ 1048576 ∧ ∀ i, i < d.an → (ka i).small) ∧ (d.bn ≤ 1048576 ∧ ∀ i, i < d.bn → (kb i).small)
def UT.same : UT → UT → Prop
 | .mk d ka kb, .mk d' ka' kb' => d.k = d'.k ∧ d.p.same d'.p ∧ d.e.same d'.e ∧ d.v.b = d'.v.b ∧ d.tb.map TB.td = d'.tb.map TB.td ∧ (d.an = d'.an ∧ ∀ i, i < d.an → (ka i).same (ka' i)) ∧ (d.bn = d'.bn ∧ ∀ i, i < d.bn → (kb i).same (kb' i))
 | _, _ => False
theorem UT.lies.upper {B : Nat} {w w' : World} {e : UT} (h : e.lies B w) (hu : Upper B w w') : e.lies B w' := by
 induction e with
 | nil => exact False.elim h
 | mk d ka kb ia ib =>
   obtain ⟨h1, h2, h3, h4, h5, ⟨a1, a2⟩, ⟨b1, b2⟩, h6, h7⟩ := h
   exact ⟨h1.upper hu, ET.lies.upper hu h2, h3.upper hu, h4.upper hu, h5, ⟨a1, a2.upper hu⟩, ⟨b1, b2.upper hu⟩, fun i hi => ia i (h6 i hi), fun i hi => ib i (h7 i hi)⟩
theorem UT.lies.base {B B' : Nat} {w : World} {e : UT} (h : e.lies B w) (hB : B' ≤ B) : e.lies B' w := by
 induction e with
 | nil => exact False.elim h
 | mk d ka kb ia ib =>
   obtain ⟨h1, h2, h3, h4, h5, ⟨a1, a2⟩, ⟨b1, b2⟩, h6, h7⟩ := h
   exact ⟨h1.base hB, ET.lies.base hB h2, h3.base hB, h4.base hB, h5, ⟨a1, a2.base hB⟩, ⟨b1, b2.base hB⟩, fun i hi => ia i (h6 i hi), fun i hi => ib i (h7 i hi)⟩
theorem UT.lies.below {B : Nat} {w w' : World} {e : UT} (h : e.lies B w) (hb : Bl w w') : e.lies B w' := UT.lies.upper h (uB hb)
theorem UT.came.below {w w' : World} {e : UT} (h : e.came w) (hb : Bl w w') : e.came w' := by
 induction e with
 | nil => exact False.elim h
 | mk d ka kb ia ib =>
   obtain ⟨h1, h2, h3, h4, ⟨a1, a2⟩, ⟨b1, b2⟩, h6, h7⟩ := h
   exact ⟨h1.below hb, ET.came.below hb h2, h3.below hb, h4.below hb, ⟨a1, a2.upper (uB hb)⟩, ⟨b1, b2.upper (uB hb)⟩, fun i hi => ia i (h6 i hi), fun i hi => ib i (h7 i hi)⟩
theorem UT.came.lies {w : World} {e : UT} (h : e.came w) (hs : e.small) : e.lies 0 w := by
 induction e with
 | nil => exact False.elim h
 | mk d ka kb ia ib =>
   obtain ⟨h1, h2, h3, h4, ⟨a1, a2⟩, ⟨b1, b2⟩, h6, h7⟩ := h
   obtain ⟨s1, s2, s3, ⟨s4, s5⟩, ⟨s6, s7⟩, ⟨s8, s9⟩⟩ := hs
   exact ⟨PB.came.lies h1 s1, ET.came.lies h2 s2, h3.bs s3, h4.lies s5, s4, ⟨s6, a2⟩, ⟨s8, b2⟩, fun i hi => ia i (h6 i hi) (s7 i hi), fun i hi => ib i (h7 i hi) (s9 i hi)⟩
structure SE where
 fn : Int
 of : SL
 v : SL
def SE.cells (x : SE) : List Value := [.int .i64 x.fn, .slice x.of.a x.of.len x.of.cap, .slice x.v.a x.v.len x.v.cap]
abbrev SE.cl (d : SE) : List Value := [.int .i64 d.fn, .slice d.of.a d.of.len d.of.cap, .slice d.v.a d.v.len d.v.cap]
abbrev SE.ar (d : SE) : Array Value := #[.int .i64 d.fn, .slice d.of.a d.of.len d.of.cap, .slice d.v.a d.v.len d.v.cap]
def SE.lies (B : Nat) (w : World) (x : SE) : Prop := BsF B w x.of ∧ BsF B w x.v
def SE.came (w : World) (x : SE) : Prop := Cm w x.of ∧ Cm w x.v
def SE.small (x : SE) : Prop := x.of.len ≤ 1048576 ∧ x.v.len ≤ 1048576
def SE.same (x y : SE) : Prop := x.fn = y.fn ∧ x.of.b = y.of.b ∧ x.v.b = y.v.b
theorem SE.lies.upper {B : Nat} {w w' : World} {x : SE} (h : x.lies B w) (hu : Upper B w w') : x.lies B w' := ⟨h.1.upper hu, h.2.upper hu⟩
theorem SE.lies.base {B B' : Nat} {w : World} {x : SE} (h : x.lies B w) (hB : B' ≤ B) : x.lies B' w := ⟨h.1.base hB, h.2.base hB⟩
theorem SE.came.below {w w' : World} {x : SE} (h : x.came w) (hb : Bl w w') : x.came w' := ⟨h.1.below hb, h.2.below hb⟩
theorem SE.came.lies {w : World} {x : SE} (h : x.came w) (hs : x.small) : x.lies 0 w := ⟨h.1.bs hs.1, h.2.bs hs.2⟩
structure KY where
 v : SL
 down : Bool
def KY.cells (x : KY) : List Value := [.slice x.v.a x.v.len x.v.cap, .bool x.down]
def KY.lies (B : Nat) (w : World) (x : KY) : Prop := BsF B w x.v
def KY.came (w : World) (x : KY) : Prop := Cm w x.v
def KY.small (x : KY) : Prop := x.v.len ≤ 1048576
def KY.same (x y : KY) : Prop := x.v.b = y.v.b ∧ x.down = y.down
theorem KY.lies.upper {B : Nat} {w w' : World} {x : KY} (h : x.lies B w) (hu : Upper B w w') : x.lies B w' := BsF.upper h hu
theorem KY.lies.base {B B' : Nat} {w : World} {x : KY} (h : x.lies B w) (hB : B' ≤ B) : x.lies B' w := BsF.base h hB
theorem KY.came.below {w w' : World} {x : KY} (h : x.came w) (hb : Bl w w') : x.came w' := Cm.below h hb
theorem KY.came.lies {w : World} {x : KY} (h : x.came w) (hs : x.small) : x.lies 0 w := Cm.bs h hs
structure QY where
 ask : Bool
 dis : Bool
 sa : Option Addr
 sc : Nat
 sn : Nat
 sel : Nat → SE
 ba : Option Addr
 bc : Nat
 bn : Nat
 body : Nat → UT
 ga : Option Addr
 gc : Nat
 gn : Nat
 grp : Nat → SL
 oa : Option Addr
 oc : Nat
 on : Nat
 key : Nat → KY
 lim : Int
 off : Int
def QY.cells (x : QY) : List Value := [.bool x.ask, .bool x.dis, .slice x.sa x.sn x.sc, .slice x.ba x.bn x.bc, .slice x.ga x.gn x.gc, .slice x.oa x.on x.oc, .int .i64 x.lim, .int .i64 x.off]
abbrev QY.cl (d : QY) : List Value := [.bool d.ask, .bool d.dis, .slice d.sa d.sn d.sc, .slice d.ba d.bn d.bc, .slice d.ga d.gn d.gc, .slice d.oa d.on d.oc, .int .i64 d.lim, .int .i64 d.off]
abbrev QY.ar (d : QY) : Array Value := #[.bool d.ask, .bool d.dis, .slice d.sa d.sn d.sc, .slice d.ba d.bn d.bc, .slice d.ga d.gn d.gc, .slice d.oa d.on d.oc, .int .i64 d.lim, .int .i64 d.off]
structure QY.lies (B : Nat) (w : World) (x : QY) : Prop where
 s : KRow B w 3 x.sa x.sn (fun i => (x.sel i).cells) ∧ (∀ i, i < x.sn → (x.sel i).lies B w) ∧ x.sn ≤ 1048576
 b : KRow B w 28 x.ba x.bn (fun i => (x.body i).d.cells) ∧ (∀ i, i < x.bn → (x.body i).lies B w) ∧ x.bn ≤ 1048576
 g : KRow B w 1 x.ga x.gn (fun i => (x.grp i).cells) ∧ (∀ i, i < x.gn → (x.grp i).lies B w) ∧ x.gn ≤ 1048576
 o : KRow B w 2 x.oa x.on (fun i => (x.key i).cells) ∧ (∀ i, i < x.on → (x.key i).lies B w) ∧ x.on ≤ 1048576
structure QY.came (w : World) (x : QY) : Prop where
 s : KRow 0 w 3 x.sa x.sn (fun i => (x.sel i).cells) ∧ (∀ i, i < x.sn → (x.sel i).came w) ∧ x.sn ≤ 9223372036854775807
 b : KRow 0 w 28 x.ba x.bn (fun i => (x.body i).d.cells) ∧ (∀ i, i < x.bn → (x.body i).came w) ∧ x.bn ≤ 9223372036854775807
 g : KRow 0 w 1 x.ga x.gn (fun i => (x.grp i).cells) ∧ (∀ i, i < x.gn → (x.grp i).came w) ∧ x.gn ≤ 9223372036854775807
 o : KRow 0 w 2 x.oa x.on (fun i => (x.key i).cells) ∧ (∀ i, i < x.on → (x.key i).came w) ∧ x.on ≤ 9223372036854775807
def QY.small (x : QY) : Prop := (x.sn ≤ 1048576 ∧ ∀ i, i < x.sn → (x.sel i).small) ∧ (x.bn ≤ 1048576 ∧ ∀ i, i < x.bn → (x.body i).small) ∧ (x.gn ≤ 1048576 ∧ ∀ i, i < x.gn → (x.grp i).small) ∧ x.on ≤ 1048576 ∧ ∀ i, i < x.on → (x.key i).small
structure QY.same (x y : QY) : Prop where
 ask : x.ask = y.ask
 dis : x.dis = y.dis
 s : x.sn = y.sn ∧ ∀ i, i < x.sn → (x.sel i).same (y.sel i)
 b : x.bn = y.bn ∧ ∀ i, i < x.bn → (x.body i).same (y.body i)
 g : x.gn = y.gn ∧ ∀ i, i < x.gn → (x.grp i).same (y.grp i)
 o : x.on = y.on ∧ ∀ i, i < x.on → (x.key i).same (y.key i)
 lim : x.lim = y.lim
 off : x.off = y.off
theorem QY.lies.upper {B : Nat} {w w' : World} {x : QY} (h : x.lies B w) (hu : Upper B w w') : x.lies B w' := ⟨⟨h.s.1.upper hu, fun i hi => (h.s.2.1 i hi).upper hu, h.s.2.2⟩, ⟨h.b.1.upper hu, fun i hi => (h.b.2.1 i hi).upper hu, h.b.2.2⟩, ⟨h.g.1.upper hu, fun i hi => (h.g.2.1 i hi).upper hu, h.g.2.2⟩, ⟨h.o.1.upper hu, fun i hi => (h.o.2.1 i hi).upper hu, h.o.2.2⟩⟩
theorem QY.lies.base {B B' : Nat} {w : World} {x : QY} (h : x.lies B w) (hB : B' ≤ B) : x.lies B' w := ⟨⟨h.s.1.base hB, fun i hi => (h.s.2.1 i hi).base hB, h.s.2.2⟩, ⟨h.b.1.base hB, fun i hi => (h.b.2.1 i hi).base hB, h.b.2.2⟩, ⟨h.g.1.base hB, fun i hi => (h.g.2.1 i hi).base hB, h.g.2.2⟩, ⟨h.o.1.base hB, fun i hi => (h.o.2.1 i hi).base hB, h.o.2.2⟩⟩
theorem QY.lies.below {B : Nat} {w w' : World} {x : QY} (h : x.lies B w) (hb : Bl w w') : x.lies B w' := h.upper (uB hb)
theorem QY.came.below {w w' : World} {x : QY} (h : x.came w) (hb : Bl w w') : x.came w' := ⟨⟨h.s.1.upper (uB hb), fun i hi => (h.s.2.1 i hi).below hb, h.s.2.2⟩, ⟨h.b.1.upper (uB hb), fun i hi => (h.b.2.1 i hi).below hb, h.b.2.2⟩, ⟨h.g.1.upper (uB hb), fun i hi => Cm.below (h.g.2.1 i hi) hb, h.g.2.2⟩, ⟨h.o.1.upper (uB hb), fun i hi => (h.o.2.1 i hi).below hb, h.o.2.2⟩⟩
theorem QY.came.lies {w : World} {x : QY} (h : x.came w) (hs : x.small) : x.lies 0 w := ⟨⟨h.s.1, fun i hi => (h.s.2.1 i hi).lies (hs.1.2 i hi), hs.1.1⟩, ⟨h.b.1, fun i hi => (h.b.2.1 i hi).lies (hs.2.1.2 i hi), hs.2.1.1⟩, ⟨h.g.1, fun i hi => Cm.bs (h.g.2.1 i hi) (hs.2.2.1.2 i hi), hs.2.2.1.1⟩, ⟨h.o.1, fun i hi => (h.o.2.1 i hi).lies (hs.2.2.2.2 i hi), hs.2.2.2.1⟩⟩
theorem szSel_any (x : SE) (l : Int) (w : World) (h1 : 0 ≤ l) (h2 : l ≤ 1048576) (hc : x.came w) :
   Calls Tryz.prog 47 #[.agg x.ar, .int .i64 l] w fun e w' => Sz x.small e ∧ Bl w w' := by
 have HZ1 := hid (fun (W : World) (l : Int) (h1 : 0 ≤ l) (h2 : l ≤ 1048576) (hb : Bl w W) => szByteS_sz _ l W h1 h2 hc.1.1)
 have HZ2 := hid (fun (W : World) (l : Int) (h1 : 0 ≤ l) (h2 : l ≤ 1048576) (hb : Bl w W) => szByteS_sz x.v l W h1 h2 hc.2.1)
 clear hc
 go_in
 have Z1 := HZ1.out
 go_wp2_with fail
 refine (Z1 _ l h1 h2 (bl_a _)).mono ?_
 rintro e w1 ⟨⟨r1, rfl, hr1⟩, hb1⟩
 have HX1 := hid ((Box.new w _ 75 _).below hb1)
 have HB1 := hid (bl_trans (bl_a _) hb1)
 clear hb1 Z1 
 rcases hr1 with rfl | ⟨p1, q1, s1⟩
 · go_wp2_with fail
   go_ret
   exact ⟨⟨-1, rfl, .inl rfl⟩, HB1.out⟩
 have n1 : ¬ r1 < 0 := by omega
 have HS1 := hid s1
 clear s1
 have ld := HX1.out.2 2 _ rfl
 have Z2 := HZ2.out
 go_wp2_with fail
 refine (Z2 _ r1 p1 q1 HB1.out).mono ?_
 rintro e w2 ⟨⟨r2, rfl, hr2⟩, hb2⟩
 have HX2 := hid (HX1.out.below hb2)
 have HB2 := hid (bl_trans HB1.out hb2)
 clear hb2 Z2 ld HX1 HB1
 rcases hr2 with rfl | ⟨p2, q2, s2⟩
 · go_wp2_with fail
   go_ret
   exact ⟨⟨-1, rfl, .inl rfl⟩, HB2.out⟩
 have n2 : ¬ r2 < 0 := by omega
 have HS2 := hid s2
 clear s2
 go_wp2_with fail
 go_ret
 exact ⟨⟨r2, rfl, .inr ⟨p2, q2, HS1.out, HS2.out⟩⟩, HB2.out⟩
theorem szSelS_of (a : Option Addr) (cap n : Nat) (kid : Nat → SE) (l : Int) (w : World) (h1 : 0 ≤ l) (h2 : l ≤ 1048576) (hn : n ≤ 9223372036854775807) (hR : KRow 0 w 3 a n (fun i => (kid i).cells))
   (IH : ∀ i, i < n → ∀ (W : World) (l : Int), 0 ≤ l → l ≤ 1048576 → Bl w W → Calls Tryz.prog 47 #[.agg (kid i).ar, .int .i64 l] W fun e w' => Sz (kid i).small e ∧ Bl W w') :
   Calls Tryz.prog 22 #[.slice a n cap, .int .i64 l] w fun e w' => Sz (n ≤ 1048576 ∧ ∀ i, i < n → (kid i).small) e ∧ Bl w w' := by
 try unfold SE.ar
 by_cases hbig : l < n
 · clear hR IH
   go_in
   go_wp2
   go_ret
   exact ⟨⟨-1, rfl, .inl rfl⟩, Below.refl _ _⟩
 by_cases hn0 : n = 0
 · subst hn0
   clear hR IH hn hbig
   have hbig : ¬ l < 0 := by omega
   go_in
   go_wp2
   refine wp_loop_rounds 1 ?_
   rw [rounds_succ]
   go_wp2
   go_ret
   exact ⟨⟨_, rfl, .inr ⟨by omega, by omega, by omega, fun i hi => absurd hi (Nat.not_lt_zero _)⟩⟩, Below.refl _ _⟩
 obtain ⟨b, off, rfl, _, hlt, hc⟩ := hR.resolve_left hn0
 have HC := hid hc
 have HI := hid IH
 clear hR hc IH
 go_in
 go_wp2
 go_loopw [1, 5] (fun x i wr => ∃ (k : Nat) (r : Int), k ≤ n ∧ i = .int .i64 k ∧ x = .int .i64 r ∧ 0 ≤ r ∧ r ≤ 1048576 ∧ Hid (Bl w wr) ∧ Hid (∀ j, j < k → (kid j).small))
   (fun _ i _ => n - (intOf i).toNat)
 case atStart => exact ⟨0, _, Nat.zero_le _, rfl, rfl, by omega, by omega, Below.refl _ _, fun j hj => absurd hj (Nat.not_lt_zero _)⟩
 obtain ⟨k, r, hk, rfl, rfl, hr0, hr1, HB, HH⟩ := hrel
 by_cases hlk : k < n
 · have hcx := fun c u (hu : ((kid k).cells)[c]? = some u) => (HB.out.cell (p := ⟨b, off + k * 3 + c, none⟩) hlt).trans (HC.out k hlk c u hu)
   have hin : (Tryz.prog.info? 75).map (·.size) = some 3 := by kernel_rfl
   have Z := HI.out k hlk
   go_wp2_with (refine wpList_load_mid rfl 75 _ rfl b (off + k * 3) rfl (kid k).cl _ hcx Tryz.underlying75 rfl hin ?_; try simp only [Act.put, sA, zA, cA])
   refine (Z _ r hr0 hr1 HB.out).mono ?_
   rintro e w2 ⟨⟨q, rfl, hq⟩, hb2⟩
   have HB2 := hid (bl_trans HB.out hb2)
   clear hcx hin Z hb2 HB
   rcases hq with rfl | ⟨z1, z2, z3⟩
   · go_wp2
     go_ret
     exact ⟨⟨-1, rfl, .inl rfl⟩, HB2.out⟩
   have HZ3 := hid z3
   have nq : ¬ q < 0 := by omega
   clear z3
   go_wp2
   go_roundw
   case rel =>
     refine ⟨k + 1, q, by omega, by go_num, rfl, by omega, by omega, HB2, fun j hj => ?_⟩
     by_cases e : j = k
     · subst e
       exact HZ3.out
     exact HH.out j (by omega)
   case measure => simp [intOf]; omega
 obtain rfl : k = n := by omega
 go_wp2
 go_ret
 exact ⟨⟨r, rfl, .inr ⟨hr0, hr1, by omega, HH.out⟩⟩, HB.out⟩
theorem szKey_any (x : KY) (l : Int) (w : World) (h1 : 0 ≤ l) (h2 : l ≤ 1048576) (hc : x.came w) :
   Calls Tryz.prog 50 #[.agg #[.slice x.v.a x.v.len x.v.cap, .bool x.down], .int .i64 l] w fun e w' => Sz x.small e ∧ Bl w w' := by
 have HZ1 := hid (fun (W : World) (l : Int) (h1 : 0 ≤ l) (h2 : l ≤ 1048576) (hb : Bl w W) => szByteS_sz x.v l W h1 h2 hc.1)
 clear hc
 go_in
 have Z1 := HZ1.out
 go_wp2_with fail
 refine (Z1 _ l h1 h2 (bl_a _)).mono ?_
 rintro e w1 ⟨⟨r1, rfl, hr1⟩, hb1⟩
 have HX1 := hid ((Box.new w _ 91 _).below hb1)
 have HB1 := hid (bl_trans (bl_a _) hb1)
 clear hb1 Z1 
 rcases hr1 with rfl | ⟨p1, q1, s1⟩
 · go_wp2_with fail
   go_ret
   exact ⟨⟨-1, rfl, .inl rfl⟩, HB1.out⟩
 have n1 : ¬ r1 < 0 := by omega
 have HS1 := hid s1
 clear s1
 go_wp2_with fail
 go_ret
 exact ⟨⟨r1, rfl, .inr ⟨p1, q1, HS1.out⟩⟩, HB1.out⟩
theorem szKeyS_of (a : Option Addr) (cap n : Nat) (kid : Nat → KY) (l : Int) (w : World) (h1 : 0 ≤ l) (h2 : l ≤ 1048576) (hn : n ≤ 9223372036854775807) (hR : KRow 0 w 2 a n (fun i => (kid i).cells))
   (IH : ∀ i, i < n → ∀ (W : World) (l : Int), 0 ≤ l → l ≤ 1048576 → Bl w W → Calls Tryz.prog 50 #[.agg #[.slice (kid i).v.a (kid i).v.len (kid i).v.cap, .bool (kid i).down], .int .i64 l] W fun e w' => Sz (kid i).small e ∧ Bl W w') :
   Calls Tryz.prog 25 #[.slice a n cap, .int .i64 l] w fun e w' => Sz (n ≤ 1048576 ∧ ∀ i, i < n → (kid i).small) e ∧ Bl w w' := by
 by_cases hbig : l < n
 · clear hR IH
   go_in
   go_wp2
   go_ret
   exact ⟨⟨-1, rfl, .inl rfl⟩, Below.refl _ _⟩
 by_cases hn0 : n = 0
 · subst hn0
   clear hR IH hn hbig
   have hbig : ¬ l < 0 := by omega
   go_in
   go_wp2
   refine wp_loop_rounds 1 ?_
   rw [rounds_succ]
   go_wp2
   go_ret
   exact ⟨⟨_, rfl, .inr ⟨by omega, by omega, by omega, fun i hi => absurd hi (Nat.not_lt_zero _)⟩⟩, Below.refl _ _⟩
 obtain ⟨b, off, rfl, _, hlt, hc⟩ := hR.resolve_left hn0
 have HC := hid hc
 have HI := hid IH
 clear hR hc IH
 go_in
 go_wp2
 go_loopw [1, 5] (fun x i wr => ∃ (k : Nat) (r : Int), k ≤ n ∧ i = .int .i64 k ∧ x = .int .i64 r ∧ 0 ≤ r ∧ r ≤ 1048576 ∧ Hid (Bl w wr) ∧ Hid (∀ j, j < k → (kid j).small))
   (fun _ i _ => n - (intOf i).toNat)
 case atStart => exact ⟨0, _, Nat.zero_le _, rfl, rfl, by omega, by omega, Below.refl _ _, fun j hj => absurd hj (Nat.not_lt_zero _)⟩
 obtain ⟨k, r, hk, rfl, rfl, hr0, hr1, HB, HH⟩ := hrel
 by_cases hlk : k < n
 · have hcx := fun c u (hu : ((kid k).cells)[c]? = some u) => (HB.out.cell (p := ⟨b, off + k * 2 + c, none⟩) hlt).trans (HC.out k hlk c u hu)
   have hin : (Tryz.prog.info? 91).map (·.size) = some 2 := by kernel_rfl
   have Z := HI.out k hlk
   go_wp2_with (refine wpList_load_mid rfl 91 _ rfl b (off + k * 2) rfl [.slice (kid k).v.a (kid k).v.len (kid k).v.cap, .bool (kid k).down] _ hcx Tryz.underlying91 rfl hin ?_; try simp only [Act.put, sA, zA, cA])
   refine (Z _ r hr0 hr1 HB.out).mono ?_
   rintro e w2 ⟨⟨q, rfl, hq⟩, hb2⟩
   have HB2 := hid (bl_trans HB.out hb2)
   clear hcx hin Z hb2 HB
   rcases hq with rfl | ⟨z1, z2, z3⟩
   · go_wp2
     go_ret
     exact ⟨⟨-1, rfl, .inl rfl⟩, HB2.out⟩
   have HZ3 := hid z3
   have nq : ¬ q < 0 := by omega
   clear z3
   go_wp2
   go_roundw
   case rel =>
     refine ⟨k + 1, q, by omega, by go_num, rfl, by omega, by omega, HB2, fun j hj => ?_⟩
     by_cases e : j = k
     · subst e
       exact HZ3.out
     exact HH.out j (by omega)
   case measure => simp [intOf]; omega
 obtain rfl : k = n := by omega
 go_wp2
 go_ret
 exact ⟨⟨r, rfl, .inr ⟨hr0, hr1, by omega, HH.out⟩⟩, HB.out⟩
theorem szElemS_of (a : Option Addr) (cap n : Nat) (kid : Nat → UT) (l : Int) (w : World) (h1 : 0 ≤ l) (h2 : l ≤ 1048576) (hn : n ≤ 9223372036854775807) (hR : KRow 0 w 28 a n (fun i => (kid i).d.cells))
   (IH : ∀ i, i < n → ∀ (W : World) (l : Int), 0 ≤ l → l ≤ 1048576 → Bl w W → Calls Tryz.prog 48 #[.agg (kid i).d.ar, .int .i64 l] W fun e w' => Sz (kid i).small e ∧ Bl W w') :
   Calls Tryz.prog 23 #[.slice a n cap, .int .i64 l] w fun e w' => Sz (n ≤ 1048576 ∧ ∀ i, i < n → (kid i).small) e ∧ Bl w w' := by
 try unfold UN.ar
 by_cases hbig : l < n
 · clear hR IH
   go_in
   go_wp2
   go_ret
   exact ⟨⟨-1, rfl, .inl rfl⟩, Below.refl _ _⟩
 by_cases hn0 : n = 0
 · subst hn0
   clear hR IH hn hbig
   have hbig : ¬ l < 0 := by omega
   go_in
   go_wp2
   refine wp_loop_rounds 1 ?_
   rw [rounds_succ]
   go_wp2
   go_ret
   exact ⟨⟨_, rfl, .inr ⟨by omega, by omega, by omega, fun i hi => absurd hi (Nat.not_lt_zero _)⟩⟩, Below.refl _ _⟩
 obtain ⟨b, off, rfl, _, hlt, hc⟩ := hR.resolve_left hn0
 have HC := hid hc
 have HI := hid IH
 clear hR hc IH
 go_in
 go_wp2
 go_loopw [1, 5] (fun x i wr => ∃ (k : Nat) (r : Int), k ≤ n ∧ i = .int .i64 k ∧ x = .int .i64 r ∧ 0 ≤ r ∧ r ≤ 1048576 ∧ Hid (Bl w wr) ∧ Hid (∀ j, j < k → (kid j).small))
   (fun _ i _ => n - (intOf i).toNat)
 case atStart => exact ⟨0, _, Nat.zero_le _, rfl, rfl, by omega, by omega, Below.refl _ _, fun j hj => absurd hj (Nat.not_lt_zero _)⟩
 obtain ⟨k, r, hk, rfl, rfl, hr0, hr1, HB, HH⟩ := hrel
 by_cases hlk : k < n
 · have hcx := fun c u (hu : ((kid k).d.cells)[c]? = some u) => (HB.out.cell (p := ⟨b, off + k * 28 + c, none⟩) hlt).trans (HC.out k hlk c u hu)
   have hin : (Tryz.prog.info? 88).map (·.size) = some 28 := by kernel_rfl
   have Z := HI.out k hlk
   go_wp2_with (refine wpList_load_mid rfl 88 _ rfl b (off + k * 28) rfl (kid k).d.cl _ hcx Tryz.underlying88 rfl hin ?_; try simp only [Act.put, sA, zA, cA])
   refine (Z _ r hr0 hr1 HB.out).mono ?_
   rintro e w2 ⟨⟨q, rfl, hq⟩, hb2⟩
   have HB2 := hid (bl_trans HB.out hb2)
   clear hcx hin Z hb2 HB
   rcases hq with rfl | ⟨z1, z2, z3⟩
   · go_wp2
     go_ret
     exact ⟨⟨-1, rfl, .inl rfl⟩, HB2.out⟩
   have HZ3 := hid z3
   have nq : ¬ q < 0 := by omega
   clear z3
   go_wp2
   go_roundw
   case rel =>
     refine ⟨k + 1, q, by omega, by go_num, rfl, by omega, by omega, HB2, fun j hj => ?_⟩
     by_cases e : j = k
     · subst e
       exact HZ3.out
     exact HH.out j (by omega)
   case measure => simp [intOf]; omega
 obtain rfl : k = n := by omega
 go_wp2
 go_ret
 exact ⟨⟨r, rfl, .inr ⟨hr0, hr1, by omega, HH.out⟩⟩, HB.out⟩
theorem szElem_any (e : UT) : ∀ (l : Int) (w : World), 0 ≤ l → l ≤ 1048576 → e.came w → Calls Tryz.prog 48 #[.agg e.d.ar, .int .i64 l] w fun r w' => Sz e.small r ∧ Bl w w' := by
 induction e with
 | nil => exact fun _ _ _ _ h => False.elim h
 | mk d ka kb ia ib =>
   intro l w h1 h2 hc
   show Calls Tryz.prog 48 #[.agg #[.int .i64 d.k, .slice d.p.s.v.a d.p.s.v.len d.p.s.v.cap, .int .i64 d.p.s.t.t.k, .slice d.p.s.t.t.a d.p.s.t.t.len d.p.s.t.t.cap, .int .i64 d.p.s.t.t.n, .int .i64 d.p.s.t.t.s, .slice d.p.p.v.a d.p.p.v.len d.p.p.v.cap, .int .i64 d.p.p.t.t.k, .slice d.p.p.t.t.a d.p.p.t.t.len d.p.p.t.t.cap, .int .i64 d.p.p.t.t.n, .int .i64 d.p.p.t.t.s, .slice d.p.o.v.a d.p.o.v.len d.p.o.v.cap, .int .i64 d.p.o.t.t.k, .slice d.p.o.t.t.a d.p.o.t.t.len d.p.o.t.t.cap, .int .i64 d.p.o.t.t.n, .int .i64 d.p.o.t.t.s, .int .i64 d.e.d.k, .int .i64 d.e.d.op, .slice d.e.d.v.a d.e.d.v.len d.e.d.v.cap, .int .i64 d.e.d.t.t.k, .slice d.e.d.t.t.a d.e.d.t.t.len d.e.d.t.t.cap, .int .i64 d.e.d.t.t.n, .int .i64 d.e.d.t.t.s, .slice d.e.d.ka d.e.d.n d.e.d.kc, .slice d.v.a d.v.len d.v.cap, .slice d.ta d.tb.length d.tc, .slice d.aa d.an d.ac, .slice d.ba d.bn d.bc], .int .i64 l] w fun r w' => Sz (d.p.small ∧ d.e.small ∧ d.v.len ≤ 1048576 ∧ (d.tb.length ≤ 1048576 ∧ ∀ x ∈ d.tb, x.t.len ≤ 1048576) ∧ (d.an ≤ 1048576 ∧ ∀ i, i < d.an → (ka i).small) ∧ (d.bn ≤ 1048576 ∧ ∀ i, i < d.bn → (kb i).small)) r ∧ Bl w w'
   obtain ⟨hp, he, hv, ht, ⟨an, aR⟩, ⟨bn, bR⟩, hka, hkb⟩ := hc
   have HZ1 := hid (fun (W : World) (l : Int) (h1 : 0 ≤ l) (h2 : l ≤ 1048576) (hb : Below _ w W) => szPat_any d.p l W h1 h2 (hp.below hb))
   have HZ2 := hid (fun (W : World) (l : Int) (h1 : 0 ≤ l) (h2 : l ≤ 1048576) (hb : Below _ w W) => szExpr_any d.e l W h1 h2 (ET.came.below hb he))
   have HZ3 := hid (fun (W : World) (l : Int) (h1 : 0 ≤ l) (h2 : l ≤ 1048576) (hb : Bl w W) => szByteS_sz d.v l W h1 h2 hv.1)
   have HZ4 := hid (fun (W : World) (l : Int) (h1 : 0 ≤ l) (h2 : l ≤ 1048576) (hb : Below _ w W) => szTermS_sz _ d.tc _ l W h1 h2 (ht.below hb))
   have HZ5 := hid (fun (W : World) (l : Int) (h1 : 0 ≤ l) (h2 : l ≤ 1048576) (hb : Below _ w W) => szElemS_of _ d.ac _ ka l W h1 h2 an (aR.upper (uB hb)) fun i hi W' l' a1 a2 hW => ia i l' W' a1 a2 ((hka i hi).below (bl_trans hb hW)))
   have HZ6 := hid (fun (W : World) (l : Int) (h1 : 0 ≤ l) (h2 : l ≤ 1048576) (hb : Below _ w W) => szElemS_of _ d.bc _ kb l W h1 h2 bn (bR.upper (uB hb)) fun i hi W' l' a1 a2 hW => ib i l' W' a1 a2 ((hkb i hi).below (bl_trans hb hW)))
   clear hp he hv ht an aR bn bR hka hkb ia ib
   go_in
   have Z1 := HZ1.out
   go_wp2_with fail
   refine (Z1 _ l h1 h2 (bl_a _)).mono ?_
   rintro e w1 ⟨⟨r1, rfl, hr1⟩, hb1⟩
   have HX1 := hid ((Box.new w _ 88 _).below hb1)
   have HB1 := hid (bl_trans (bl_a _) hb1)
   clear hb1 Z1 
   rcases hr1 with rfl | ⟨p1, q1, s1⟩
   · go_wp2_with fail
     go_ret
     exact ⟨⟨-1, rfl, .inl rfl⟩, HB1.out⟩
   have n1 : ¬ r1 < 0 := by omega
   have HS1 := hid s1
   clear s1
   have ld : w1.rangeAt w.heap.size 16 d.e.d.cl := HX1.out.range 16 _ rfl
   have Z2 := HZ2.out
   go_wp2_with (refine wpList_load_mid rfl 85 _ rfl w.heap.size 16 rfl d.e.d.cl _ ld Tryz.underlying85 rfl (by kernel_rfl) ?_; try simp only [Act.put, sA, zA, cA])
   refine (Z2 _ r1 p1 q1 HB1.out).mono ?_
   rintro e w2 ⟨⟨r2, rfl, hr2⟩, hb2⟩
   have HX2 := hid (HX1.out.below hb2)
   have HB2 := hid (bl_trans HB1.out hb2)
   clear hb2 Z2 ld HX1 HB1
   rcases hr2 with rfl | ⟨p2, q2, s2⟩
   · go_wp2_with fail
     go_ret
     exact ⟨⟨-1, rfl, .inl rfl⟩, HB2.out⟩
   have n2 : ¬ r2 < 0 := by omega
   have HS2 := hid s2
   clear s2
   have ld := HX2.out.2 24 _ rfl
   have Z3 := HZ3.out
   go_wp2_with fail
   refine (Z3 _ r2 p2 q2 HB2.out).mono ?_
   rintro e w3 ⟨⟨r3, rfl, hr3⟩, hb3⟩
   have HX3 := hid (HX2.out.below hb3)
   have HB3 := hid (bl_trans HB2.out hb3)
   clear hb3 Z3 ld HX2 HB2
   rcases hr3 with rfl | ⟨p3, q3, s3⟩
   · go_wp2_with fail
     go_ret
     exact ⟨⟨-1, rfl, .inl rfl⟩, HB3.out⟩
   have n3 : ¬ r3 < 0 := by omega
   have HS3 := hid s3
   clear s3
   have ld := HX3.out.2 25 _ rfl
   have Z4 := HZ4.out
   go_wp2_with fail
   refine (Z4 _ r3 p3 q3 HB3.out).mono ?_
   rintro e w4 ⟨⟨r4, rfl, hr4⟩, hb4⟩
   have HX4 := hid (HX3.out.below hb4)
   have HB4 := hid (bl_trans HB3.out hb4)
   clear hb4 Z4 ld HX3 HB3
   rcases hr4 with rfl | ⟨p4, q4, s4⟩
   · go_wp2_with fail
     go_ret
     exact ⟨⟨-1, rfl, .inl rfl⟩, HB4.out⟩
   have n4 : ¬ r4 < 0 := by omega
   have HS4 := hid s4
   clear s4
   have ld := HX4.out.2 26 _ rfl
   have Z5 := HZ5.out
   go_wp2_with fail
   refine (Z5 _ r4 p4 q4 HB4.out).mono ?_
   rintro e w5 ⟨⟨r5, rfl, hr5⟩, hb5⟩
   have HX5 := hid (HX4.out.below hb5)
   have HB5 := hid (bl_trans HB4.out hb5)
   clear hb5 Z5 ld HX4 HB4
   rcases hr5 with rfl | ⟨p5, q5, s5⟩
   · go_wp2_with fail
     go_ret
     exact ⟨⟨-1, rfl, .inl rfl⟩, HB5.out⟩
   have n5 : ¬ r5 < 0 := by omega
   have HS5 := hid s5
   clear s5
   have ld := HX5.out.2 27 _ rfl
   have Z6 := HZ6.out
   go_wp2_with fail
   refine (Z6 _ r5 p5 q5 HB5.out).mono ?_
   rintro e w6 ⟨⟨r6, rfl, hr6⟩, hb6⟩
   have HX6 := hid (HX5.out.below hb6)
   have HB6 := hid (bl_trans HB5.out hb6)
   clear hb6 Z6 ld HX5 HB5
   rcases hr6 with rfl | ⟨p6, q6, s6⟩
   · go_wp2_with fail
     go_ret
     exact ⟨⟨-1, rfl, .inl rfl⟩, HB6.out⟩
   have n6 : ¬ r6 < 0 := by omega
   have HS6 := hid s6
   clear s6
   go_wp2_with fail
   go_ret
   exact ⟨⟨r6, rfl, .inr ⟨p6, q6, HS1.out, HS2.out, HS3.out, HS4.out, HS5.out, HS6.out⟩⟩, HB6.out⟩
theorem szQuery_any (x : QY) (l : Int) (w : World) (h1 : 0 ≤ l) (h2 : l ≤ 1048576) (hc : x.came w) :
   Calls Tryz.prog 6 #[.agg x.ar, .int .i64 l] w fun e w' => Sz x.small e ∧ Bl w w' := by
 have HZ1 := hid (fun (W : World) (l : Int) (h1 : 0 ≤ l) (h2 : l ≤ 1048576) (hb : Below _ w W) => szSelS_of _ x.sc _ _ l W h1 h2 hc.s.2.2 (hc.s.1.upper (uB hb)) fun i hi W' l' a1 a2 hW => szSel_any _ l' W' a1 a2 ((hc.s.2.1 i hi).below (bl_trans hb hW)))
 have HZ2 := hid (fun (W : World) (l : Int) (h1 : 0 ≤ l) (h2 : l ≤ 1048576) (hb : Below _ w W) => szElemS_of _ x.bc _ _ l W h1 h2 hc.b.2.2 (hc.b.1.upper (uB hb)) fun i hi W' l' a1 a2 hW => szElem_any _ l' W' a1 a2 ((hc.b.2.1 i hi).below (bl_trans hb hW)))
 have HZ3 := hid (fun (W : World) (l : Int) (h1 : 0 ≤ l) (h2 : l ≤ 1048576) (hb : Below _ w W) => szByteSS_of _ x.gc _ _ l W h1 h2 hc.g.2.2 (hc.g.1.upper (uB hb)) fun i hi W' l' a1 a2 hW => szByteS_sz _ l' W' a1 a2 (hc.g.2.1 i hi).1)
 have HZ4 := hid (fun (W : World) (l : Int) (h1 : 0 ≤ l) (h2 : l ≤ 1048576) (hb : Below _ w W) => szKeyS_of _ x.oc _ _ l W h1 h2 hc.o.2.2 (hc.o.1.upper (uB hb)) fun i hi W' l' a1 a2 hW => szKey_any _ l' W' a1 a2 ((hc.o.2.1 i hi).below (bl_trans hb hW)))
 clear hc
 go_in
 have Z1 := HZ1.out
 go_wp2_with fail
 refine (Z1 _ l h1 h2 (bl_a _)).mono ?_
 rintro e w1 ⟨⟨r1, rfl, hr1⟩, hb1⟩
 have HX1 := hid ((Box.new w _ 27 _).below hb1)
 have HB1 := hid (bl_trans (bl_a _) hb1)
 clear hb1 Z1 
 rcases hr1 with rfl | ⟨p1, q1, s1⟩
 · go_wp2_with fail
   go_ret
   exact ⟨⟨-1, rfl, .inl rfl⟩, HB1.out⟩
 have n1 : ¬ r1 < 0 := by omega
 have HS1 := hid s1
 clear s1
 have ld := HX1.out.2 3 _ rfl
 have Z2 := HZ2.out
 go_wp2_with fail
 refine (Z2 _ r1 p1 q1 HB1.out).mono ?_
 rintro e w2 ⟨⟨r2, rfl, hr2⟩, hb2⟩
 have HX2 := hid (HX1.out.below hb2)
 have HB2 := hid (bl_trans HB1.out hb2)
 clear hb2 Z2 ld HX1 HB1
 rcases hr2 with rfl | ⟨p2, q2, s2⟩
 · go_wp2_with fail
   go_ret
   exact ⟨⟨-1, rfl, .inl rfl⟩, HB2.out⟩
 have n2 : ¬ r2 < 0 := by omega
 have HS2 := hid s2
 clear s2
 have ld := HX2.out.2 4 _ rfl
 have Z3 := HZ3.out
 go_wp2_with fail
 refine (Z3 _ r2 p2 q2 HB2.out).mono ?_
 rintro e w3 ⟨⟨r3, rfl, hr3⟩, hb3⟩
 have HX3 := hid (HX2.out.below hb3)
 have HB3 := hid (bl_trans HB2.out hb3)
 clear hb3 Z3 ld HX2 HB2
 rcases hr3 with rfl | ⟨p3, q3, s3⟩
 · go_wp2_with fail
   go_ret
   exact ⟨⟨-1, rfl, .inl rfl⟩, HB3.out⟩
 have n3 : ¬ r3 < 0 := by omega
 have HS3 := hid s3
 clear s3
 have ld := HX3.out.2 5 _ rfl
 have Z4 := HZ4.out
 go_wp2_with fail
 refine (Z4 _ r3 p3 q3 HB3.out).mono ?_
 rintro e w4 ⟨⟨r4, rfl, hr4⟩, hb4⟩
 have HX4 := hid (HX3.out.below hb4)
 have HB4 := hid (bl_trans HB3.out hb4)
 clear hb4 Z4 ld HX3 HB3
 rcases hr4 with rfl | ⟨p4, q4, s4⟩
 · go_wp2_with fail
   go_ret
   exact ⟨⟨-1, rfl, .inl rfl⟩, HB4.out⟩
 have n4 : ¬ r4 < 0 := by omega
 have HS4 := hid s4
 clear s4
 go_wp2_with fail
 go_ret
 exact ⟨⟨r4, rfl, .inr ⟨p4, q4, HS1.out, HS2.out, HS3.out, HS4.out.1, HS4.out.2⟩⟩, HB4.out⟩
/- TreC -/
theorem upper_set {w : World} {g i : Nat} (v : Value) : Upper (g + 1) w (w.setCell ⟨g, i, none⟩ v) := by
 have hb := (But.refl g w).set i v
 exact ⟨by rw [hb.size]; exact Nat.le_refl _, fun b h1 _ => hb.block b (by omega)⟩
theorem Upper.trans {B : Nat} {w w' w'' : World} (h : Upper B w w') (k : Upper B w' w'') : Upper B w w'' := ⟨Nat.le_trans h.size k.size, fun b h1 h2 => (k.block b h1 (Nat.lt_of_lt_of_le h2 h.size)).trans (h.block b h1 h2)⟩
theorem Upper.mono {B B' : Nat} {w w' : World} (h : Upper B w w') (hB : B ≤ B') : Upper B' w w' := ⟨h.size, fun b h1 h2 => h.block b (by omega) h2⟩
theorem upper_sets (g : Nat) : ∀ (vs : List Value) (o : Nat) (w : World), Upper (g + 1) w (w.setCells g o vs)
 | [], _, _ => ⟨Nat.le_refl _, fun _ _ _ => rfl⟩
 | v :: r, o, w => (upper_set v).trans (upper_sets g r (o + 1) (w.setCell ⟨g, o, none⟩ v))
theorem below_sets {w0 : World} (g : Nat) (hg : w0.heap.size ≤ g) : ∀ (vs : List Value) (o : Nat) (w : World), Bl w0 w → Bl w0 (w.setCells g o vs)
 | [], _, _, h => h
 | v :: r, o, _, h => below_sets g hg r (o + 1) _ (h.setCell (p := ⟨g, o, none⟩) hg v)
def OB (w : World) (b : Nat) (L : List Value) : Prop := b < w.heap.size ∧ ∀ c u, L[c]? = some u → w.cell? ⟨b, c, none⟩ = some u ∧ w.frozen? ⟨b, c, none⟩ = false
theorem OB.new (w : World) (vs : Array Value) (t : TypeId) : OB (w.alloc (.cells vs t)) w.heap.size vs.toList := by
 refine ⟨by simp, fun c u hu => ⟨(Box.new w vs t _).2 c u hu, by simp [go_sem]⟩⟩
theorem OB.below {w w' : World} {b : Nat} {L : List Value} (h : OB w b L) (hb : Bl w w') : OB w' b L := ⟨Nat.lt_of_lt_of_le h.1 hb.size, fun c u hu => ⟨(hb.cell (p := ⟨b, c, none⟩) h.1).trans (h.2 c u hu).1, (hb.frozen (p := ⟨b, c, none⟩) h.1).trans (h.2 c u hu).2⟩⟩
theorem OB.set {w : World} {b : Nat} {L : List Value} (h : OB w b L) (c : Nat) (v : Value) : OB (w.setCell ⟨b, c, none⟩ v) b (L.set c v) := by
 refine ⟨by simpa using h.1, fun j u hu => ?_⟩
 by_cases e : c = j
 · subst e
   by_cases hc : c < L.length
   · rw [List.getElem?_set, if_pos rfl, if_pos hc] at hu
     cases hu
     have h2 := h.2 c _ (List.getElem?_eq_getElem hc)
     exact ⟨set_same h2.1, by rw [World.frozen?_setCell]; exact h2.2⟩
   rw [List.getElem?_eq_none (by rw [List.length_set]; omega)] at hu
   cases hu
 rw [List.getElem?_set, if_neg e] at hu
 have h2 := h.2 j u hu
 exact ⟨(set_other (fun e' => e e'.symm)).trans h2.1, by rw [World.frozen?_setCell]; exact h2.2⟩
def setL : List Value → Nat → List Value → List Value
 | L, _, [] => L
 | L, o, v :: r => setL (L.set o v) (o + 1) r
theorem OB.sets {b : Nat} : ∀ (vs : List Value) (o : Nat) {w : World} {L : List Value}, OB w b L → OB (w.setCells b o vs) b (setL L o vs)
 | [], _, _, _, h => h
 | v :: r, o, _, _, h => OB.sets r (o + 1) (h.set o v)
theorem OB.upper {B : Nat} {w w' : World} {b : Nat} {L : List Value} (h : OB w b L) (hu : Upper B w w') (hB : B ≤ b) : OB w' b L := ⟨Nat.lt_of_lt_of_le h.1 hu.size, fun c u hc => ⟨(hu.cell hB h.1).trans (h.2 c u hc).1, (World.frozen?_of_block (w := w) (a := ⟨b, c, none⟩) (hu.block b hB h.1)).trans (h.2 c u hc).2⟩⟩
theorem OB.but {w w' : World} {g b : Nat} {L : List Value} (h : OB w b L) (hb : But g w w') (hne : b ≠ g) : OB w' b L := ⟨by rw [hb.size]; exact h.1, fun c u hc => ⟨(hb.cell (p := ⟨b, c, none⟩) hne).trans (h.2 c u hc).1, (World.frozen?_of_block (w := w) (a := ⟨b, c, none⟩) (hb.block b hne)).trans (h.2 c u hc).2⟩⟩
theorem but_trans {g : Nat} {w w' w'' : World} (h : But g w w') (k : But g w' w'') : But g w w'' := ⟨k.os.trans h.os, k.tape.trans h.tape, k.output.trans h.output, k.size.trans h.size, fun b hb => (k.block b hb).trans (h.block b hb)⟩
theorem but_sets (g : Nat) : ∀ (vs : List Value) (o : Nat) (w : World), But g w (w.setCells g o vs)
 | [], _, w => But.refl g w
 | v :: r, o, w => but_trans ((But.refl g w).set o v) (but_sets g r (o + 1) _)
theorem OB.box {w : World} {b : Nat} {L : List Value} (h : OB w b L) : Box w b L := ⟨h.1, fun c u hu => (h.2 c u hu).1⟩
theorem OB.there {w : World} {b : Nat} {L : List Value} (h : OB w b L) (o n : Nat) (hn : o + n ≤ L.length) : w.there b o n := fun j hj => by
 have h2 := h.2 (o + j) _ (List.getElem?_eq_getElem (by omega))
 exact ⟨by rw [h2.1]; rfl, h2.2⟩
theorem Box.upper {B : Nat} {w w' : World} {b : Nat} {L : List Value} (h : Box w b L) (hb : But B w w') (hne : b ≠ B) : Box w' b L := ⟨by rw [hb.size]; exact h.1, fun c u hc => (hb.cell (p := ⟨b, c, none⟩) hne).trans (h.2 c u hc)⟩
structure TS (w0 W : World) (pc zc oc : List Value) : Prop where
 bl : Bl w0 W
 px : Box W w0.heap.size pc
 rz : OB W (w0.heap.size + 1) zc
 ox : OB W (w0.heap.size + 1 + 1) oc
theorem TS.new (w : World) (pc zc oc : Array Value) (t u v : TypeId) : TS w (((w.alloc (.cells pc t)).alloc (.cells zc u)).alloc (.cells oc v)) pc.toList zc.toList oc.toList := by
 refine ⟨bl_alloc (bl_alloc (bl_a _) _) _, ?_, ?_, ?_⟩
 · exact ((Box.new w pc t _).below (bl_a _)).below (bl_a _)
 · have h := (OB.new (w.alloc (.cells pc t)) zc u).below (bl_a (.cells oc v))
   simpa using h
 have h := OB.new ((w.alloc (.cells pc t)).alloc (.cells zc u)) oc v
 simpa using h
theorem TS.below {w0 W W' : World} {pc zc oc : List Value} (h : TS w0 W pc zc oc) (hb : Bl W W') : TS w0 W' pc zc oc := ⟨bl_trans h.bl hb, h.px.below hb, h.rz.below hb, h.ox.below hb⟩
theorem TS.set {w0 W : World} {pc zc oc : List Value} (h : TS w0 W pc zc oc) (c : Nat) (v : Value) : TS w0 (W.setCell ⟨w0.heap.size + 1 + 1, c, none⟩ v) pc zc (oc.set c v) := by
 have hb : But (w0.heap.size + 1 + 1) W (W.setCell ⟨w0.heap.size + 1 + 1, c, none⟩ v) := (But.refl _ _).set c v
 exact ⟨h.bl.setCell (p := ⟨w0.heap.size + 1 + 1, c, none⟩) (by show w0.heap.size ≤ w0.heap.size + 1 + 1; omega) v, h.px.upper hb (by omega), h.rz.but hb (by omega), h.ox.set c v⟩
theorem TS.sets {w0 W : World} {pc zc oc : List Value} (h : TS w0 W pc zc oc) (o : Nat) (vs : List Value) : TS w0 (W.setCells (w0.heap.size + 1 + 1) o vs) pc zc (setL oc o vs) :=
 ⟨below_sets _ (by omega) vs o W h.bl, h.px.upper (but_sets _ vs o W) (by omega), h.rz.but (but_sets _ vs o W) (by omega), h.ox.sets vs o⟩
theorem TS.base {w0 W : World} {pc zc oc : List Value} (h : TS w0 W pc zc oc) : w0.heap.size + 1 + 1 + 1 ≤ W.heap.size := h.ox.1
theorem results_cell {P : Program} {fn : Func} {tmps : Array Value} {w : World} {a : Nat} {t : TypeId} {ad : Addr} {v : Value} (hf : fn.results = #[.cell a t]) (ht : tmps.getD a undef = .pointer (some ad)) (hl : (loadVar t ad).run P w = .ok v w) : (results fn tmps).run P w = .ok v w := by
 have h2 : tmps[a]?.getD undef = .pointer (some ad) := by simpa using ht
 simp [results, hf, h2, asAddr, hl]
/- TreE -/
def TB.lies (B : Nat) (w : World) (x : TB) : Prop := BsF B w x.sl ∧ x.t.fits
def TB.same (x y : TB) : Prop := x.td = y.td
theorem TB.lies.upper {B : Nat} {w w' : World} {x : TB} (h : x.lies B w) (hu : Upper B w w') : x.lies B w' := ⟨h.1.upper hu, h.2⟩
theorem TB.lies.base {B B' : Nat} {w : World} {x : TB} (h : x.lies B w) (hB : B' ≤ B) : x.lies B' w := ⟨h.1.base hB, h.2⟩
def TB0 : TB := ⟨⟨0, none, 0, 0, 0, 0⟩, []⟩
def tbG (l : List TB) (i : Nat) : TB := l[i]?.getD TB0
theorem tbG_at {l : List TB} {i : Nat} (h : i < l.length) : tbG l i = l[i] ∧ l[i] ∈ l := by
 refine ⟨?_, List.getElem_mem h⟩
 unfold tbG
 rw [List.getElem?_eq_getElem h]
 rfl
theorem trow_krow {B : Nat} {w : World} {a : Option Addr} {l : List TB} (h : TRowF B w a l) : KRow B w 4 a l.length (fun i => enc4 (tbG l i).t) := by
 obtain ⟨h1, h2, _⟩ := h
 rcases h1 with e | ⟨b, off, ha, hlt, hc⟩
 · exact .inl (by rw [e]; rfl)
 by_cases h0 : l = []
 · exact .inl (by rw [h0]; rfl)
 refine .inr ⟨b, off, ha, (h2.resolve_left h0) _ ha, hlt, fun i hi c u hu => ?_⟩
 dsimp only at hu
 rw [(tbG_at hi).1] at hu
 have hc4 : c < 4 := (List.getElem?_eq_some_iff.1 hu).1
 have := hc (i * 4 + c) u (by rw [flat4_get l i c hi hc4]; exact hu)
 rw [Nat.add_assoc]
 exact this
theorem krow_trow {B : Nat} {w : World} {g n : Nat} {f : Nat → TB} (h : KRow B w 4 (some ⟨g, 0, none⟩) n (fun i => enc4 (f i).t)) (hl : ∀ i, i < n → (f i).lies B w) : TRowF B w (some ⟨g, 0, none⟩) ((List.range n).map f) := by
 have hlen : ((List.range n).map f).length = n := by simp
 refine ⟨?_, ?_, fun x hx => ?_⟩
 · rcases h with h | ⟨b, off, ha, _, hlt, hc⟩
   · exact .inl (by rw [h]; rfl)
   refine .inr ⟨b, off, ha, hlt, fun j u hu => ?_⟩
   have hj : j < n * 4 := by
     have := (List.getElem?_eq_some_iff.1 hu).1
     rwa [flat4_len, hlen] at this
   have hi : j / 4 < n := by omega
   have hc4 : j % 4 < 4 := by omega
   have e : j = j / 4 * 4 + j % 4 := by omega
   rw [e, flat4_get _ (j / 4) (j % 4) (by rw [hlen]; exact hi) hc4] at hu
   have hg : ((List.range n).map f)[j / 4]'(by rw [hlen]; exact hi) = f (j / 4) := by simp
   rw [hg] at hu
   have := hc (j / 4) hi (j % 4) u hu
   rw [e, ← Nat.add_assoc]
   exact this
 · rcases h with h | ⟨b, off, ha, hB, _⟩
   · exact .inl (by rw [h]; rfl)
   exact .inr fun p hp => by rw [ha] at hp; cases hp; exact hB
 obtain ⟨i, hi, rfl⟩ := List.mem_map.1 hx
 exact hl i (List.mem_range.1 hi)
end Go.Proofs.YthljoojcpbignaaGreatDoor
