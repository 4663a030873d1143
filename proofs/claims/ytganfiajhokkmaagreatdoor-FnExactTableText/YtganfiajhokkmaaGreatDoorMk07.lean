/- Texts put together: TreE TreD DrwA TreF TreG TreH TreK -/
import Derived.Test.YtganfiajhokkmaaGreatDoorMk05
import Derived.Deep.RegionHeld3
import Derived.Test.YtganfiajhokkmaaGreatDoorMk01
import Derived.Test.YtganfiajhokkmaaGreatDoorMk02
import Derived.Test.YtganfiajhokkmaaGreatDoorMk03
import Derived.Deep.AppendLies
import Derived.Deep.Upon
/- TreE -/
namespace Go.Proofs.YtganfiajhokkmaaGreatDoor
open Go.RowKit Go.Deep
set_option maxRecDepth 100000

def TB.lies (B : Nat) (w : World) (x : TB) : Prop := BsF B w x.sl ∧ x.t.fits
def TB.same (x y : TB) : Prop := x.td = y.td
theorem TB.lies.upper {B : Nat} {w w' : World} {x : TB} (h : x.lies B w) (hu : Upper B w w') : x.lies B w' := ⟨h.1.upper hu, h.2⟩
theorem TB.lies.base {B B' : Nat} {w : World} {x : TB} (h : x.lies B w) (hB : B' ≤ B) : x.lies B' w := ⟨h.1.base hB, h.2⟩
end Go.Proofs.YtganfiajhokkmaaGreatDoor

/- TreD -/
namespace Go.Proofs.YtganfiajhokkmaaGreatDoor
open Go.RowKit Go.Deep
set_option maxRecDepth 100000

theorem takeq {P : Program} {md : Region.Mode} {ops : Array Oper} {Q : Exit → Act → World → Prop} {S : World → Prop} {i : Nat} {oi : Oper} {v : Value} {fuel : Nat} {listed : Array Bool} {a : Act} {w : World} (d : Nat) (hi : ops[i]? = some oi) (hd : oi.dst = some d)
    (hs : Region.noSelect ops = true) (hf : Region.free md ops listed i = true) (hr : (Region.ready md ops listed).contains i = true)
    (hQ : ∀ c a w, Q (.panic c) (a.put (some d) v) w → Q (.panic c) a w) (hy : YieldsIf P ops S oi v a) (hS : S w)
    (h : wpAnyH P md ops Q S fuel (listed.setIfInBounds i true) (a.put (some d) v) w) : wpAnyH P md ops Q S (fuel + 1) listed a w :=
  wpAnyH_take hi hs hf hr (by rw [hd]; exact hQ) hy hS (by rw [hd]; exact h)
/-- It answers true. -/
def Yes (w : World) (e : Ending) (w' : World) : Prop := e = .returned (.bool true) ∧ Below w.heap.size w w'
theorem eqByteS_same (x y : SL) (w : World) (hx : BsF 0 w x) (hy : BsF 0 w y) (h : x.b = y.b) : Calls Tryz.prog 8 #[.slice x.a x.len x.cap, .slice y.a y.len y.cap] w (Yes w) := by
  refine (eqByteS_any x.a y.a x.len y.len x.cap y.cap x.b y.b w hx.1 hy.1).mono ?_
  rintro e w' ⟨rfl, q, rfl⟩
  exact ⟨by rw [h]; simp, below_drewN (Below.refl _ _) _⟩
theorem eqTerm_same (x y : TB) (w : World) (hx : BsF 0 w x.sl) (hy : BsF 0 w y.sl) (h : x.td = y.td) : Calls Tryz.prog 93 #[.agg #[.int .i64 x.t.k, .slice x.t.a x.t.len x.t.cap, .int .i64 x.t.n, .int .i64 x.t.s], .agg #[.int .i64 y.t.k, .slice y.t.a y.t.len y.t.cap, .int .i64 y.t.n, .int .i64 y.t.s]] w (Yes w) := by
  refine (eqTerm_any x.t.k x.t.n x.t.s y.t.k y.t.n y.t.s x.t.a y.t.a x.t.len x.t.cap y.t.len y.t.cap x.b y.b w hx.1 hy.1).mono ?_
  rintro e w' ⟨rfl, hb⟩
  simp only [TB.td, TD.mk.injEq] at h
  exact ⟨by simp [h], hb⟩

end Go.Proofs.YtganfiajhokkmaaGreatDoor

/- DrwA -/
namespace Go.Proofs.YtganfiajhokkmaaGreatDoor
open Go.RowKit Go.Deep

/-- The cursor c lies in block g; the code is not in it. -/
structure Cur (w : World) (g : Nat) (a : Option Addr) (len cap : Nat) : Prop where
  lt : g < w.heap.size
  c0 : w.cell? ⟨g, 0, none⟩ = some (.slice a len cap)
  c1 : ∃ i : Nat, i ≤ len ∧ w.cell? ⟨g, 1, none⟩ = some (.int .i64 i)
  c2 : ∃ h : Int, w.cell? ⟨g, 2, none⟩ = some (.int .i64 h)
  f1 : w.frozen? ⟨g, 1, none⟩ = false
  f2 : w.frozen? ⟨g, 2, none⟩ = false
  code : len = 0 ∨ ∃ b off, a = some ⟨b, off, none⟩ ∧ b < w.heap.size ∧ b ≠ g ∧ ∀ i, i < len → ∃ v, w.cell? ⟨b, off + i, none⟩ = some (.int .u8 v) ∧ 0 ≤ v ∧ v ≤ 255

/-- All blocks that there were but g are as they were. -/
structure Past (g : Nat) (w w' : World) : Prop where
  os : w'.os = w.os
  tape : w'.tape = w.tape
  output : w'.output = w.output
  size : w.heap.size ≤ w'.heap.size
  block : ∀ b, b < w.heap.size → b ≠ g → w'.heap[b]? = w.heap[b]?
theorem Past.refl (g : Nat) (w : World) : Past g w w := ⟨rfl, rfl, rfl, Nat.le_refl _, fun _ _ _ => rfl⟩
theorem Past.trans {g : Nat} {w w' w'' : World} (h : Past g w w') (k : Past g w' w'') : Past g w w'' :=
  ⟨k.os.trans h.os, k.tape.trans h.tape, k.output.trans h.output, Nat.le_trans h.size k.size, fun b hb hn => (k.block b (Nat.lt_of_lt_of_le hb h.size) hn).trans (h.block b hb hn)⟩
theorem Past.of_below {g : Nat} {w w' : World} (h : Below w.heap.size w w') : Past g w w' := ⟨h.os, h.tape, h.output, h.size, fun b hb _ => h.block b hb⟩
theorem Past.set {g : Nat} {w w' : World} (h : Past g w w') (i : Nat) (v : Value) : Past g w (w'.setCell ⟨g, i, none⟩ v) :=
  ⟨h.os, h.tape, h.output, by simpa using h.size, fun b hb hn => (Below.heap_setCell _ _ _ _ hn).trans (h.block b hb hn)⟩
theorem Past.below {g B : Nat} {w w' : World} (h : Past g w w') (hB : B ≤ g) (hw : B ≤ w.heap.size) : Below B w w' :=
  ⟨h.os, h.tape, h.output, h.size, fun b hb => h.block b (by omega) (by omega)⟩
theorem Past.cell {g : Nat} {w w' : World} (h : Past g w w') {p : Addr} (hp : p.block < w.heap.size) (hn : p.block ≠ g) : w'.cell? p = w.cell? p := World.cell?_of_block (w := w) (h.block p.block hp hn)
theorem Past.frozen {g : Nat} {w w' : World} (h : Past g w w') {p : Addr} (hp : p.block < w.heap.size) (hn : p.block ≠ g) : w'.frozen? p = w.frozen? p := World.frozen?_of_block (w := w) (h.block p.block hp hn)
theorem Cur.below {w w' : World} {g : Nat} {a : Option Addr} {len cap : Nat} (h : Cur w g a len cap) (hb : Below w.heap.size w w') : Cur w' g a len cap := by
  have e : ∀ i, w'.cell? ⟨g, i, none⟩ = w.cell? ⟨g, i, none⟩ := fun i => hb.cell (p := ⟨g, i, none⟩) h.lt
  have f : ∀ i, w'.frozen? ⟨g, i, none⟩ = w.frozen? ⟨g, i, none⟩ := fun i => hb.frozen (p := ⟨g, i, none⟩) h.lt
  refine ⟨Nat.lt_of_lt_of_le h.lt hb.size, (e 0).trans h.c0, ?_, ?_, (f 1).trans h.f1, (f 2).trans h.f2, ?_⟩
  · rw [e 1]; exact h.c1
  · rw [e 2]; exact h.c2
  · rcases h.code with hc | ⟨b, off, ha, hlt, hn, hc⟩
    · exact .inl hc
    · refine .inr ⟨b, off, ha, Nat.lt_of_lt_of_le hlt hb.size, hn, fun i hi => ?_⟩
      rw [hb.cell (p := ⟨b, off + i, none⟩) hlt]
      exact hc i hi

theorem Past.drewN {g : Nat} {w w' : World} (h : Past g w w') (q : Nat) : Past g w (w'.drewN q) := h.trans (Past.of_below (below_drewN (Below.refl _ _) q))
theorem Cur.drewN {w : World} {g : Nat} {a : Option Addr} {len cap : Nat} (h : Cur w g a len cap) (q : Nat) : Cur (w.drewN q) g a len cap := h.below (below_drewN (Below.refl _ _) q)
end Go.Proofs.YtganfiajhokkmaaGreatDoor

/- TreF -/
namespace Go.Proofs.YtganfiajhokkmaaGreatDoor
open Go.RowKit Go.Deep
set_option maxRecDepth 100000

/-- A yes or no. -/
def Tells (P : Prop) (w : World) (e : Ending) (w' : World) : Prop := ∃ q : Bool, e = .returned (.bool q) ∧ (q = true ↔ P) ∧ Below w.heap.size w w'
theorem Tells.of {P : Prop} {w w' : World} {b : Bool} (h : b = true ↔ P) (hb : Below w.heap.size w w') : Tells P w (.returned (.bool b)) w' := ⟨b, rfl, h, hb⟩
theorem Tells.no {P : Prop} {w w' : World} (h : ¬ P) (hb : Below w.heap.size w w') : Tells P w (.returned (.bool false)) w' := ⟨false, rfl, ⟨fun e => (by cases e), fun hp => absurd hp h⟩, hb⟩
theorem Tells.yes {P : Prop} {w w' : World} (h : P) (hb : Below w.heap.size w w') : Tells P w (.returned (.bool true)) w' := ⟨true, rfl, ⟨fun _ => h, fun _ => rfl⟩, hb⟩

/-- What is zero. -/
def zeroT (x : TD) : Prop := x.k = 0 ∧ x.bs = [] ∧ x.n = 0 ∧ x.s = 0
def zeroE (e : ET) : Prop := e.d.k = 0 ∧ e.d.op = 0 ∧ e.d.v.b = [] ∧ zeroT e.d.t.td ∧ e.d.n = 0
theorem nil_len {b : List Int} {n : Nat} (h : b.length = n) : b = [] ↔ n = 0 := by
  rw [← h]
  exact List.length_eq_zero_iff.symm
theorem name_pos {b : List Int} (h : nameOk b = true) : b ≠ [] := by
  rintro rfl
  simp [nameOk] at h
/-- The model's small functions. -/
theorem l4zeroTerm_any (x : TB) (w : World) (h : BsF 0 w x.sl) :
    Calls Tryz.prog 35 #[.agg #[.int .i64 x.t.k, .slice x.t.a x.t.len x.t.cap, .int .i64 x.t.n, .int .i64 x.t.s]] w (Tells (zeroT x.td) w) := by
  have HL : Hid (x.b = [] ↔ x.t.len = 0) := nil_len h.1.1
  clear h
  by_cases h0 : x.t.k = 0
  rotate_left
  · go_enter Tryz.func35, Tryz.ntmps35
    go_wp2
    go_ret
    exact Tells.no (P := zeroT x.td) (fun hp => h0 hp.1) (bl_a _)
  by_cases h1 : x.t.len = 0
  rotate_left
  · go_enter Tryz.func35, Tryz.ntmps35
    go_wp2
    go_ret
    exact Tells.no (P := zeroT x.td) (fun hp => h1 (HL.out.1 hp.2.1)) (bl_a _)
  by_cases h2 : x.t.n = 0
  rotate_left
  · go_enter Tryz.func35, Tryz.ntmps35
    go_wp2
    go_ret
    exact Tells.no (P := zeroT x.td) (fun hp => h2 hp.2.2.1) (bl_a _)
  by_cases h3 : x.t.s = 0
  rotate_left
  · have h3' : (x.t.s == 0) = false := by simp [h3]
    go_enter Tryz.func35, Tryz.ntmps35
    go_wp2
    go_ret
    exact Tells.no (P := zeroT x.td) (fun hp => h3 hp.2.2.2) (bl_a _)
  · have HP : Hid (zeroT x.td) := ⟨h0, HL.out.2 h1, h2, h3⟩
    go_enter Tryz.func35, Tryz.ntmps35
    go_wp2
    go_ret
    exact Tells.yes HP.out (bl_a _)
theorem l4var_any (x : SL) (w : World) (h : BsF 0 w x) : Calls Tryz.prog 32 #[.slice x.a x.len x.cap] w (Tells (nameOk x.b = true) w) := by
  have T := specTermOk_any 0 0 0 x.a x.len x.cap x.b w h.1 (by omega) (by omega)
  have e : termOk 0 x.b 0 0 = nameOk x.b := by simp [termOk]
  rw [e] at T
  clear h
  go_enter Tryz.func32, Tryz.ntmps32
  go_wp2_with fail
  refine T.mono ?_
  rintro e w1 ⟨rfl, o1, rfl⟩
  clear T
  go_wp2_with fail
  go_ret
  exact Tells.of Iff.rfl (bl_a _)
end Go.Proofs.YtganfiajhokkmaaGreatDoor

/- TreG -/
namespace Go.Proofs.YtganfiajhokkmaaGreatDoor
open Go.RowKit Go.Deep
set_option maxRecDepth 100000

/-- A number in a box that may be written. -/
structure Ctr (w : World) (g : Nat) (L : Int) : Prop where
  lt : g < w.heap.size
  cell : w.cell? ⟨g, 0, none⟩ = some (.int .i64 L)
  fr : w.frozen? ⟨g, 0, none⟩ = false
theorem Ctr.below {w w' : World} {g : Nat} {L : Int} (h : Ctr w g L) (hb : Below w.heap.size w w') : Ctr w' g L := ⟨Nat.lt_of_lt_of_le h.lt hb.size, (hb.cell (p := ⟨g, 0, none⟩) h.lt).trans h.cell, (hb.frozen (p := ⟨g, 0, none⟩) h.lt).trans h.fr⟩
theorem Ctr.set {w : World} {g : Nat} {L : Int} (h : Ctr w g L) (L' : Int) : Ctr (w.setCell ⟨g, 0, none⟩ (.int .i64 L')) g L' := ⟨by simpa using h.lt, set_same h.cell, by rw [World.frozen?_setCell]; exact h.fr⟩
/-- What a function answers that counts parts off a number. -/
def CtrAns (P : Prop) (sz g : Nat) (L : Int) (w : World) (e : Ending) (w' : World) : Prop := ∃ (q : Bool) (L' : Int), e = .returned (.bool q) ∧ (q = true ↔ P ∧ (sz : Int) ≤ L) ∧ (q = true → L' = L - sz) ∧ Ctr w' g L' ∧ Past g w w'
theorem CtrAns.no {P : Prop} {sz g : Nat} {L L' : Int} {w w' : World} (h : ¬ (P ∧ (sz : Int) ≤ L)) (hc : Ctr w' g L') (hp : Past g w w') : CtrAns P sz g L w (.returned (.bool false)) w' := ⟨false, L', rfl, ⟨fun e => (by cases e), fun hh => absurd hh h⟩, fun e => (by cases e), hc, hp⟩
theorem CtrAns.yes {P : Prop} {sz g : Nat} {L L' : Int} {w w' : World} (h : P) (hs : (sz : Int) ≤ L) (hL : L' = L - sz) (hc : Ctr w' g L') (hp : Past g w w') : CtrAns P sz g L w (.returned (.bool true)) w' := ⟨true, L', rfl, ⟨fun _ => ⟨h, hs⟩, fun _ => rfl⟩, fun _ => hL, hc, hp⟩
theorem Box.past {g : Nat} {w w' : World} {b : Nat} {L : List Value} (h : Box w b L) (hp : Past g w w') (hne : b ≠ g) : Box w' b L := ⟨Nat.lt_of_lt_of_le h.1 hp.size, fun c u hc => (hp.cell (p := ⟨b, c, none⟩) h.1 hne).trans (h.2 c u hc)⟩
/-- Within a function that counts: its argument in a box, the number, what was there before. -/
structure CS (w0 w W : World) (g : Nat) (L : Int) (cs : List Value) : Prop where
  bx : Box W w.heap.size cs
  ct : Ctr W g L
  pa : Past g w W
  bl : Below w0.heap.size w0 W
theorem CS.below {w0 w W W' : World} {g : Nat} {L : Int} {cs : List Value} (h : CS w0 w W g L cs) (hw : w0.heap.size ≤ W.heap.size) (hb : Below W.heap.size W W') : CS w0 w W' g L cs := ⟨h.bx.below hb, h.ct.below hb, h.pa.trans (Past.of_below hb), h.bl.trans (hb.mono hw)⟩
theorem CS.past {w0 w W W' : World} {g : Nat} {L L' : Int} {cs : List Value} (h : CS w0 w W g L cs) (hg : w0.heap.size ≤ g) (hgw : g < w.heap.size) (hp : Past g W W') (hc : Ctr W' g L') : CS w0 w W' g L' cs := ⟨h.bx.past hp (by omega), hc, h.pa.trans hp, h.bl.trans (hp.below hg (by have := h.bl.size; omega))⟩
theorem CS.new {w0 w : World} {g : Nat} {L : Int} (hb : Below w0.heap.size w0 w) (hg : w0.heap.size ≤ g) (hc : Ctr w g L) (cs : Array Value) (t : TypeId) (L' : Int) : CS w0 w ((w.setCell ⟨g, 0, none⟩ (.int .i64 L')).alloc (.cells cs t)) g L' cs.toList := by
  have h1 : Past g w (w.setCell ⟨g, 0, none⟩ (.int .i64 L')) := (Past.refl g w).set 0 _
  have h2 : Past g w ((w.setCell ⟨g, 0, none⟩ (.int .i64 L')).alloc (.cells cs t)) := h1.trans (Past.of_below (bl_a _))
  have h3 := Box.new (w.setCell ⟨g, 0, none⟩ (.int .i64 L')) cs t (0, 0)
  have e : (w.setCell ⟨g, 0, none⟩ (.int .i64 L')).heap.size = w.heap.size := by simp
  rw [e] at h3
  exact ⟨h3, (hc.set L').below (bl_a _), h2, hb.trans (h2.below hg (by have := hb.size; omega))⟩
end Go.Proofs.YtganfiajhokkmaaGreatDoor

/- TreH -/
namespace Go.Proofs.YtganfiajhokkmaaGreatDoor
open Go.RowKit Go.Deep
theorem CS.low {w0 w W W' : World} {g fb : Nat} {L : Int} {cs : List Value} (h : CS w0 w W g L cs) (hw : w0.heap.size ≤ w.heap.size) (hgw : g < w.heap.size) (hf : w.heap.size < fb) (hb : Below fb W W') : CS w0 w W' g L cs :=
  ⟨⟨Nat.lt_of_lt_of_le h.bx.1 hb.size, fun c u hu => (hb.cell (p := ⟨w.heap.size, c, none⟩) hf).trans (h.bx.2 c u hu)⟩, ⟨Nat.lt_of_lt_of_le h.ct.lt hb.size, (hb.cell (p := ⟨g, 0, none⟩) (by show g < fb; omega)).trans h.ct.cell, (hb.frozen (p := ⟨g, 0, none⟩) (by show g < fb; omega)).trans h.ct.fr⟩, ⟨hb.os.trans h.pa.os, hb.tape.trans h.pa.tape, hb.output.trans h.pa.output, Nat.le_trans h.pa.size hb.size, fun b h1 h2 => (hb.block b (by omega)).trans (h.pa.block b h1 h2)⟩, h.bl.trans (hb.mono (by omega))⟩
/-- The expression 1. -/
def one : ET := .mk ⟨1, 0, ⟨none, 0, 0, []⟩, ⟨⟨3, none, 0, 0, 1, 0⟩, []⟩, none, 0, 0⟩ (fun _ => .nil)
end Go.Proofs.YtganfiajhokkmaaGreatDoor

/- TreK -/
namespace Go.Proofs.YtganfiajhokkmaaGreatDoor
open Go.RowKit Go.Deep
set_option maxRecDepth 100000

def SL.v (x : SL) : Value := .slice x.a x.len x.cap
/-- A list of texts of the call's own: the texts themselves lie in the world w0. -/
structure VL (w0 w : World) (B : Nat) (v : Value) (L : List SL) : Prop where
  own : w.ownsRow B 27 1 v L.length (L.map SL.v)
  lo : ∀ g, v.ownBlock = some g → B ≤ g ∧ g < w.heap.size
  txt : ∀ x ∈ L, BsF 0 w0 x
theorem VL.nil (w0 w : World) (B : Nat) : VL w0 w B (.slice none 0 0) [] := ⟨World.ownsRow_nil _ _ _ _, fun g h => (by cases h), fun x hx => (by cases hx)⟩
theorem VL.keep {w0 w w' : World} {B : Nat} {v : Value} {L : List SL} (h : VL w0 w B v L) (hs : w.heap.size ≤ w'.heap.size) (hb : ∀ g, v.ownBlock = some g → w'.heap[g]? = w.heap[g]?) : VL w0 w' B v L := by
  obtain ⟨⟨h1, h2⟩, hl, ht⟩ := h
  refine ⟨⟨h1, ?_⟩, fun c hc => ⟨(hl c hc).1, Nat.lt_of_lt_of_le (hl c hc).2 hs⟩, ht⟩
  rcases h2 with h2 | ⟨g', cap', cur, hv, hB, hh, r⟩
  · exact .inl h2
  · refine .inr ⟨g', cap', cur, hv, hB, ?_, r⟩
    rw [hb g' (by rw [hv]; rfl)]
    exact hh
theorem VL.below {w0 w w' : World} {B : Nat} {v : Value} {L : List SL} (h : VL w0 w B v L) (hb : Below w.heap.size w w') : VL w0 w' B v L := h.keep hb.size fun g hg => hb.block g (h.lo g hg).2
theorem VL.form {w0 w : World} {B : Nat} {v : Value} {L : List SL} (h : VL w0 w B v L) : ∃ a cap, v = .slice a L.length cap ∧ (L = [] ∨ ∃ g, a = some ⟨g, 0, none⟩ ∧ B ≤ g ∧ g < w.heap.size ∧ ∀ i x, L[i]? = some x → w.cell? ⟨g, i, none⟩ = some (.slice x.a x.len x.cap)) := by
  rcases h.own.2 with ⟨hv, h0⟩ | ⟨g, cap, cur, hv, hB, hh, hle, _, hsz, htk⟩
  · have := List.eq_nil_of_length_eq_zero h0
    subst this
    exact ⟨none, 0, hv, .inl rfl⟩
  · refine ⟨some ⟨g, 0, none⟩, cap, hv, .inr ⟨g, rfl, hB, (h.lo g (by rw [hv]; rfl)).2, fun i x hx => ?_⟩⟩
    have hi := (List.getElem?_eq_some_iff.1 hx).1
    have hu : (L.map SL.v)[i]? = some (.slice x.a x.len x.cap) := by rw [List.getElem?_map, hx]; rfl
    rw [← htk, List.getElem?_take, if_pos (by omega)] at hu
    simp only [World.cell?, hh]
    simpa using hu
def InL (b : List Int) (L : List SL) : Prop := b ∈ L.map SL.b
def addV (l : List (List Int)) (v : List Int) : List (List Int) := if v = [] ∨ v ∈ l then l else l ++ [v]
/-- What adding to a list leaves: all blocks but the list's own; the new list's block is the elder one, or new. -/
structure Kp (v : Value) (w : World) (v' : Value) (w' : World) : Prop where
  os : w'.os = w.os
  tape : w'.tape = w.tape
  output : w'.output = w.output
  size : w.heap.size ≤ w'.heap.size
  block : ∀ b, b < w.heap.size → v.ownBlock ≠ some b → w'.heap[b]? = w.heap[b]?
  blk : ∀ g, v'.ownBlock = some g → v.ownBlock = some g ∨ w.heap.size ≤ g
theorem Kp.of_below {v : Value} {w w' : World} (h : Below w.heap.size w w') : Kp v w v w' := ⟨h.os, h.tape, h.output, h.size, fun b hb _ => h.block b hb, fun _ hg => .inl hg⟩
theorem Kp.trans {v v' v'' : Value} {w w' w'' : World} (h : Kp v w v' w') (k : Kp v' w' v'' w'') : Kp v w v'' w'' :=
  ⟨k.os.trans h.os, k.tape.trans h.tape, k.output.trans h.output, Nat.le_trans h.size k.size, fun b hb hn => (k.block b (Nat.lt_of_lt_of_le hb h.size) (fun e => by
    rcases h.blk b e with e' | e'
    · exact hn e'
    · omega)).trans (h.block b hb hn), fun g hg => by
    rcases k.blk g hg with e | e
    · exact h.blk g e
    · exact .inr (Nat.le_trans h.size e)⟩
theorem Kp.box {v v' : Value} {w w' : World} {b : Nat} {L : List Value} (h : Kp v w v' w') (hx : Box w b L) (hn : v.ownBlock ≠ some b) : Box w' b L := ⟨Nat.lt_of_lt_of_le hx.1 h.size, fun c u hu => (World.cell?_of_block (w := w) (a := ⟨b, c, none⟩) (h.block b hx.1 hn)).trans (hx.2 c u hu)⟩
theorem Kp.low {v v' : Value} {w w' : World} {B : Nat} (h : Kp v w v' w') (hv : ∀ g, v.ownBlock = some g → B ≤ g) (hB : B ≤ w.heap.size) : Below B w w' := ⟨h.os, h.tape, h.output, h.size, fun b hb => h.block b (by omega) (fun e => by have := hv b e; omega)⟩
theorem Kp.pre {v v' : Value} {w w1 w' : World} (h : Below w.heap.size w w1) (k : Kp v w1 v' w') : Kp v w v' w' := (Kp.of_below h).trans k
theorem str_ne {a b : List Int} (ha : Byt a) (hb : Byt b) (h : a ≠ b) : strOfNums a ≠ strOfNums b := fun e => h (by rw [← numsOf_nums ha, ← numsOf_nums hb, e])
theorem str_ne2 {a b : List Int} (ha : Byt a) (hb : Byt b) (h : a ≠ b) : (strOfNums a).toList ≠ (strOfNums b).toList := fun e => h (by
  rw [Lib.strOfNums_toList, Lib.strOfNums_toList] at e
  rw [← numsOf_nums ha, ← numsOf_nums hb]
  show (a.map fun n => UInt8.ofNat n.toNat).map _ = (b.map fun n => UInt8.ofNat n.toNat).map _
  exact congrArg _ e)
theorem Tryz.infoB27 : (Tryz.prog.info? 27).map (fun i => (i.zero, i.size, i.bytes)) = some (some (.slice none 0 0), 1, 24) := by kernel_rfl
end Go.Proofs.YtganfiajhokkmaaGreatDoor
