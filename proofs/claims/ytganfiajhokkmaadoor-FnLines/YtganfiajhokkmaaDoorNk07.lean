/- Texts put together: TreG TreH TreK TbE ShwA ShwB ShwC ShwF ShwG ShwH GraC GraE TreL -/
import Derived.Test.YtganfiajhokkmaaDoorNk06
import Derived.Deep.AppendLies
import Derived.Deep.Upon
import Derived.Test.YtganfiajhokkmaaDoorNk01
import Derived.ArgAppend
import Derived.Lib.SmallJoins
import Derived.Test.YtganfiajhokkmaaDoorNk02
import Derived.Deep.RegionHeld3
/- TreG -/
namespace Go.Proofs.YtganfiajhokkmaaDoor
open Go.RowKit Go.Deep
set_option maxRecDepth 100000

/-- A number in a box that may be written. -/
structure Ctr (w : World) (g : Nat) (L : Int) : Prop where
  lt : g < w.heap.size
  cell : w.cell? ⟨g, 0, none⟩ = some (.int .i64 L)
  fr : w.frozen? ⟨g, 0, none⟩ = false
theorem Ctr.below {w w' : World} {g : Nat} {L : Int} (h : Ctr w g L) (hb : Below w.heap.size w w') : Ctr w' g L := ⟨Nat.lt_of_lt_of_le h.lt hb.size, (hb.cell (p := ⟨g, 0, none⟩) h.lt).trans h.cell, (hb.frozen (p := ⟨g, 0, none⟩) h.lt).trans h.fr⟩
theorem Ctr.set {w : World} {g : Nat} {L : Int} (h : Ctr w g L) (L' : Int) : Ctr (w.setCell ⟨g, 0, none⟩ (.int .i64 L')) g L' := ⟨by simpa using h.lt, set_same h.cell, by rw [World.frozen?_setCell]; exact h.fr⟩
/-- What a function answers that counts parts off a number. -/
def CtrAns (P : Prop) (sz g : Nat) (L : Int) (w : World) (e : Ending) (w' : World) : Prop := ∃ (q : Bool) (L' : Int), e = .returned (.bool q) ∧ (q = true ↔ P ∧ (sz : Int) ≤ L) ∧ (q = true → L' = L - sz) ∧ Ctr w' g L' ∧ Past g w w'
theorem CtrAns.no {P : Prop} {sz g : Nat} {L L' : Int} {w w' : World} (h : ¬ (P ∧ (sz : Int) ≤ L)) (hc : Ctr w' g L') (hp : Past g w w') : CtrAns P sz g L w (.returned (.bool false)) w' := ⟨false, L', rfl, ⟨fun e => (by cases e), fun hh => absurd hh h⟩, fun e => (by cases e), hc, hp⟩
theorem CtrAns.yes {P : Prop} {sz g : Nat} {L L' : Int} {w w' : World} (h : P) (hs : (sz : Int) ≤ L) (hL : L' = L - sz) (hc : Ctr w' g L') (hp : Past g w w') : CtrAns P sz g L w (.returned (.bool true)) w' := ⟨true, L', rfl, ⟨fun _ => ⟨h, hs⟩, fun _ => rfl⟩, fun _ => hL, hc, hp⟩
theorem Box.past {g : Nat} {w w' : World} {b : Nat} {L : List Value} (h : Box w b L) (hp : Past g w w') (hne : b ≠ g) : Box w' b L := ⟨Nat.lt_of_lt_of_le h.1 hp.size, fun c u hc => (hp.cell (p := ⟨b, c, none⟩) h.1 hne).trans (h.2 c u hc)⟩
/-- Within a function that counts: its argument in a box, the number, what was there before. -/
structure CS (w0 w W : World) (g : Nat) (L : Int) (cs : List Value) : Prop where
  bx : Box W w.heap.size cs
  ct : Ctr W g L
  pa : Past g w W
  bl : Below w0.heap.size w0 W
theorem CS.below {w0 w W W' : World} {g : Nat} {L : Int} {cs : List Value} (h : CS w0 w W g L cs) (hw : w0.heap.size ≤ W.heap.size) (hb : Below W.heap.size W W') : CS w0 w W' g L cs := ⟨h.bx.below hb, h.ct.below hb, h.pa.trans (Past.of_below hb), h.bl.trans (hb.mono hw)⟩
theorem CS.past {w0 w W W' : World} {g : Nat} {L L' : Int} {cs : List Value} (h : CS w0 w W g L cs) (hg : w0.heap.size ≤ g) (hgw : g < w.heap.size) (hp : Past g W W') (hc : Ctr W' g L') : CS w0 w W' g L' cs := ⟨h.bx.past hp (by omega), hc, h.pa.trans hp, h.bl.trans (hp.below hg (by have := h.bl.size; omega))⟩
theorem CS.new {w0 w : World} {g : Nat} {L : Int} (hb : Below w0.heap.size w0 w) (hg : w0.heap.size ≤ g) (hc : Ctr w g L) (cs : Array Value) (t : TypeId) (L' : Int) : CS w0 w ((w.setCell ⟨g, 0, none⟩ (.int .i64 L')).alloc (.cells cs t)) g L' cs.toList := by
  have h1 : Past g w (w.setCell ⟨g, 0, none⟩ (.int .i64 L')) := (Past.refl g w).set 0 _
  have h2 : Past g w ((w.setCell ⟨g, 0, none⟩ (.int .i64 L')).alloc (.cells cs t)) := h1.trans (Past.of_below (bl_a _))
  have h3 := Box.new (w.setCell ⟨g, 0, none⟩ (.int .i64 L')) cs t (0, 0)
  have e : (w.setCell ⟨g, 0, none⟩ (.int .i64 L')).heap.size = w.heap.size := by simp
  rw [e] at h3
  exact ⟨h3, (hc.set L').below (bl_a _), h2, hb.trans (h2.below hg (by have := hb.size; omega))⟩
end Go.Proofs.YtganfiajhokkmaaDoor

/- TreH -/
namespace Go.Proofs.YtganfiajhokkmaaDoor
open Go.RowKit Go.Deep
theorem CS.low {w0 w W W' : World} {g fb : Nat} {L : Int} {cs : List Value} (h : CS w0 w W g L cs) (hw : w0.heap.size ≤ w.heap.size) (hgw : g < w.heap.size) (hf : w.heap.size < fb) (hb : Below fb W W') : CS w0 w W' g L cs :=
  ⟨⟨Nat.lt_of_lt_of_le h.bx.1 hb.size, fun c u hu => (hb.cell (p := ⟨w.heap.size, c, none⟩) hf).trans (h.bx.2 c u hu)⟩, ⟨Nat.lt_of_lt_of_le h.ct.lt hb.size, (hb.cell (p := ⟨g, 0, none⟩) (by show g < fb; omega)).trans h.ct.cell, (hb.frozen (p := ⟨g, 0, none⟩) (by show g < fb; omega)).trans h.ct.fr⟩, ⟨hb.os.trans h.pa.os, hb.tape.trans h.pa.tape, hb.output.trans h.pa.output, Nat.le_trans h.pa.size hb.size, fun b h1 h2 => (hb.block b (by omega)).trans (h.pa.block b h1 h2)⟩, h.bl.trans (hb.mono (by omega))⟩
/-- The expression 1. -/
def one : ET := .mk ⟨1, 0, ⟨none, 0, 0, []⟩, ⟨⟨3, none, 0, 0, 1, 0⟩, []⟩, none, 0, 0⟩ (fun _ => .nil)
end Go.Proofs.YtganfiajhokkmaaDoor

/- TreK -/
namespace Go.Proofs.YtganfiajhokkmaaDoor
open Go.RowKit Go.Deep
set_option maxRecDepth 100000

def SL.v (x : SL) : Value := .slice x.a x.len x.cap
/-- A list of texts of the call's own: the texts themselves lie in the world w0. -/
structure VL (w0 w : World) (B : Nat) (v : Value) (L : List SL) : Prop where
  own : w.ownsRow B 22 1 v L.length (L.map SL.v)
  lo : ∀ g, v.ownBlock = some g → B ≤ g ∧ g < w.heap.size
  txt : ∀ x ∈ L, BsF 0 w0 x
theorem VL.nil (w0 w : World) (B : Nat) : VL w0 w B (.slice none 0 0) [] := ⟨World.ownsRow_nil _ _ _ _, fun g h => (by cases h), fun x hx => (by cases hx)⟩
theorem VL.keep {w0 w w' : World} {B : Nat} {v : Value} {L : List SL} (h : VL w0 w B v L) (hs : w.heap.size ≤ w'.heap.size) (hb : ∀ g, v.ownBlock = some g → w'.heap[g]? = w.heap[g]?) : VL w0 w' B v L := by
  obtain ⟨⟨h1, h2⟩, hl, ht⟩ := h
  refine ⟨⟨h1, ?_⟩, fun c hc => ⟨(hl c hc).1, Nat.lt_of_lt_of_le (hl c hc).2 hs⟩, ht⟩
  rcases h2 with h2 | ⟨g', cap', cur, hv, hB, hh, r⟩
  · exact .inl h2
  · refine .inr ⟨g', cap', cur, hv, hB, ?_, r⟩
    rw [hb g' (by rw [hv]; rfl)]
    exact hh
theorem VL.below {w0 w w' : World} {B : Nat} {v : Value} {L : List SL} (h : VL w0 w B v L) (hb : Below w.heap.size w w') : VL w0 w' B v L := h.keep hb.size fun g hg => hb.block g (h.lo g hg).2
theorem VL.form {w0 w : World} {B : Nat} {v : Value} {L : List SL} (h : VL w0 w B v L) : ∃ a cap, v = .slice a L.length cap ∧ (L = [] ∨ ∃ g, a = some ⟨g, 0, none⟩ ∧ B ≤ g ∧ g < w.heap.size ∧ ∀ i x, L[i]? = some x → w.cell? ⟨g, i, none⟩ = some (.slice x.a x.len x.cap)) := by
  rcases h.own.2 with ⟨hv, h0⟩ | ⟨g, cap, cur, hv, hB, hh, hle, _, hsz, htk⟩
  · have := List.eq_nil_of_length_eq_zero h0
    subst this
    exact ⟨none, 0, hv, .inl rfl⟩
  · refine ⟨some ⟨g, 0, none⟩, cap, hv, .inr ⟨g, rfl, hB, (h.lo g (by rw [hv]; rfl)).2, fun i x hx => ?_⟩⟩
    have hi := (List.getElem?_eq_some_iff.1 hx).1
    have hu : (L.map SL.v)[i]? = some (.slice x.a x.len x.cap) := by rw [List.getElem?_map, hx]; rfl
    rw [← htk, List.getElem?_take, if_pos (by omega)] at hu
    simp only [World.cell?, hh]
    simpa using hu
def InL (b : List Int) (L : List SL) : Prop := b ∈ L.map SL.b
def addV (l : List (List Int)) (v : List Int) : List (List Int) := if v = [] ∨ v ∈ l then l else l ++ [v]
/-- What adding to a list leaves: all blocks but the list's own; the new list's block is the elder one, or new. -/
structure Kp (v : Value) (w : World) (v' : Value) (w' : World) : Prop where
  os : w'.os = w.os
  tape : w'.tape = w.tape
  output : w'.output = w.output
  size : w.heap.size ≤ w'.heap.size
  block : ∀ b, b < w.heap.size → v.ownBlock ≠ some b → w'.heap[b]? = w.heap[b]?
  blk : ∀ g, v'.ownBlock = some g → v.ownBlock = some g ∨ w.heap.size ≤ g
theorem Kp.of_below {v : Value} {w w' : World} (h : Below w.heap.size w w') : Kp v w v w' := ⟨h.os, h.tape, h.output, h.size, fun b hb _ => h.block b hb, fun _ hg => .inl hg⟩
theorem Kp.trans {v v' v'' : Value} {w w' w'' : World} (h : Kp v w v' w') (k : Kp v' w' v'' w'') : Kp v w v'' w'' :=
  ⟨k.os.trans h.os, k.tape.trans h.tape, k.output.trans h.output, Nat.le_trans h.size k.size, fun b hb hn => (k.block b (Nat.lt_of_lt_of_le hb h.size) (fun e => by
    rcases h.blk b e with e' | e'
    · exact hn e'
    · omega)).trans (h.block b hb hn), fun g hg => by
    rcases k.blk g hg with e | e
    · exact h.blk g e
    · exact .inr (Nat.le_trans h.size e)⟩
theorem Kp.box {v v' : Value} {w w' : World} {b : Nat} {L : List Value} (h : Kp v w v' w') (hx : Box w b L) (hn : v.ownBlock ≠ some b) : Box w' b L := ⟨Nat.lt_of_lt_of_le hx.1 h.size, fun c u hu => (World.cell?_of_block (w := w) (a := ⟨b, c, none⟩) (h.block b hx.1 hn)).trans (hx.2 c u hu)⟩
theorem Kp.low {v v' : Value} {w w' : World} {B : Nat} (h : Kp v w v' w') (hv : ∀ g, v.ownBlock = some g → B ≤ g) (hB : B ≤ w.heap.size) : Below B w w' := ⟨h.os, h.tape, h.output, h.size, fun b hb => h.block b (by omega) (fun e => by have := hv b e; omega)⟩
theorem Kp.pre {v v' : Value} {w w1 w' : World} (h : Below w.heap.size w w1) (k : Kp v w1 v' w') : Kp v w v' w' := (Kp.of_below h).trans k
theorem str_ne {a b : List Int} (ha : Byt a) (hb : Byt b) (h : a ≠ b) : strOfNums a ≠ strOfNums b := fun e => h (by rw [← numsOf_nums ha, ← numsOf_nums hb, e])
theorem str_ne2 {a b : List Int} (ha : Byt a) (hb : Byt b) (h : a ≠ b) : (strOfNums a).toList ≠ (strOfNums b).toList := fun e => h (by
  rw [Lib.strOfNums_toList, Lib.strOfNums_toList] at e
  rw [← numsOf_nums ha, ← numsOf_nums hb]
  show (a.map fun n => UInt8.ofNat n.toNat).map _ = (b.map fun n => UInt8.ofNat n.toNat).map _
  exact congrArg _ e)
theorem Tryd.infoB22 : (Tryd.prog.info? 22).map (fun i => (i.zero, i.size, i.bytes)) = some (some (.slice none 0 0), 1, 24) := by kernel_rfl
end Go.Proofs.YtganfiajhokkmaaDoor

/- TbE -/
namespace Go.Proofs.YtganfiajhokkmaaDoor
open Go.RowKit Go.Deep
set_option maxRecDepth 100000

/-- What a cell must be. -/
def cellOk (x : CB) : Prop := (x.has = true → x.t.td.ok = true) ∧ (x.has = false → zeroT x.t.td)
def solOk (s : SO) (n : Nat) : Prop := s.n = n ∧ ∀ i, i < s.n → cellOk (s.cel i)
def varOk (var : Nat → SL) (i : Nat) : Prop := nameOk (var i).b = true ∧ ∀ j, j < i → (var j).b ≠ (var i).b
def varsOkL (n : Nat) (var : Nat → SL) : Prop := n ≤ 8 ∧ ∀ i, i < n → varOk var i
def tabOk (t : TL) : Prop := varsOkL t.vn t.var ∧ t.rn ≤ 300 ∧ ∀ i, i < t.rn → solOk (t.row i) t.vn
end Go.Proofs.YtganfiajhokkmaaDoor

/- ShwA -/
namespace Go.Proofs.YtganfiajhokkmaaDoor
open Go.RowKit Go.Deep
set_option maxRecDepth 100000

/-- The digits of n, as bytes, at most f and one of them. -/
def digF : Nat → Nat → List Int
  | 0, n => [48 + (n : Int) % 10]
  | f + 1, n => if n < 10 then [48 + (n : Int)] else digF f (n / 10) ++ [48 + (n : Int) % 10]
/-- The digits of n, as bytes. -/
def digitsL (n : Nat) : List Int := digF n n
theorem digF_small {n : Nat} (h : n < 10) : ∀ f, digF f n = [48 + (n : Int)]
  | 0 => by
    have : (n : Int) % 10 = n := by omega
    simp [digF, this]
  | f + 1 => by simp [digF, h]
theorem digF_like : ∀ (f g n : Nat), n ≤ f → n ≤ g → digF f n = digF g n
  | 0, g, n, h, _ => by rw [digF_small (by omega), digF_small (by omega)]
  | f + 1, 0, n, _, h => by rw [digF_small (by omega), digF_small (by omega)]
  | f + 1, g + 1, n, h1, h2 => by
    by_cases h : n < 10
    · rw [digF_small h, digF_small h]
    · simp only [digF, h, if_false]
      rw [digF_like f g (n / 10) (by omega) (by omega)]
theorem digitsL_small {n : Nat} (h : n < 10) : digitsL n = [48 + (n : Int)] := digF_small h n
theorem digitsL_step {n : Nat} (h : ¬ n < 10) : digitsL n = digitsL (n / 10) ++ [48 + (n : Int) % 10] := by
  obtain ⟨m, rfl⟩ : ∃ m, n = m + 1 := ⟨n - 1, by omega⟩
  unfold digitsL
  rw [digF_like ((m + 1) / 10) m ((m + 1) / 10) (by omega) (by omega)]
  simp only [digF, h, if_false]
theorem digitsL_len (k : Nat) : ∀ n : Nat, n < 10 ^ (k + 1) → (digitsL n).length ≤ k + 1 := by
  induction k with
  | zero => intro n h; rw [digitsL_small (by omega)]; simp
  | succ k ih =>
    intro n h
    by_cases h0 : n < 10
    · rw [digitsL_small h0]; simp
    · rw [digitsL_step h0]
      have := ih (n / 10) (by rw [Nat.pow_succ] at h; omega)
      simp
      omega

/-- A row of bytes of the call's own, in block g, that may grow. -/
def Row8 (w : World) (B g n cap : Nat) (bs : List Int) : Prop := w.ownsRow B 5 1 (.slice (some ⟨g, 0, none⟩) n cap) n (bs.map (Value.int .u8)) ∧ g < w.heap.size
/-- A row of bytes that is new. -/
theorem Row8.new (w : World) (x : Int) : Row8 (w.alloc (.cells #[.int .u8 x] 5)) w.heap.size w.heap.size 1 1 [x] := by
  refine ⟨⟨rfl, .inr ⟨w.heap.size, 1, #[.int .u8 x], rfl, Nat.le_refl _, by simp [World.alloc, -World.alloc_eq], by omega, by unfold maxLen; omega, rfl, rfl⟩⟩, by simp⟩
theorem Row8.below {w w' : World} {B g n cap : Nat} {bs : List Int} (h : Row8 w B g n cap bs) (hb : Below w.heap.size w w') : Row8 w' B g n cap bs := by
  obtain ⟨⟨h1, h2⟩, hl⟩ := h
  refine ⟨⟨h1, ?_⟩, Nat.lt_of_lt_of_le hl hb.size⟩
  rcases h2 with ⟨h2, _⟩ | ⟨g', cap', cur, hv, hB, hh, r⟩
  · cases h2
  · refine .inr ⟨g', cap', cur, hv, hB, ?_, r⟩
    cases hv
    rw [hb.block g hl]
    exact hh
theorem Row8.mono {w : World} {B B' g n cap : Nat} {bs : List Int} (h : Row8 w B g n cap bs) (hB : B' ≤ B) : Row8 w B' g n cap bs := by
  obtain ⟨⟨h1, h2⟩, hl⟩ := h
  refine ⟨⟨h1, ?_⟩, hl⟩
  rcases h2 with ⟨h2, _⟩ | ⟨g', cap', cur, hv, hb, r⟩
  · cases h2
  · exact .inr ⟨g', cap', cur, hv, Nat.le_trans hB hb, r⟩
/-- What growing leaves of what was there. -/
theorem grown_below {w w' : World} {B g : Nat} (h : w.grownBy w' (some g)) (hB : B ≤ g) (hw : B ≤ w.heap.size) : Below B w w' :=
  ⟨h.os, h.tape, h.output, h.size, fun b hb => h.block b (by omega) (by intro e; cases e; omega)⟩

/-- What digits answer. -/
def DigRes (w : World) (bs : List Int) (e : Ending) (w' : World) : Prop := ∃ g cap, e = .returned (.slice (some ⟨g, 0, none⟩) bs.length cap) ∧ Row8 w' w.heap.size g bs.length cap bs ∧ Below w.heap.size w w'
end Go.Proofs.YtganfiajhokkmaaDoor

/- ShwB -/
namespace Go.Proofs.YtganfiajhokkmaaDoor
open Go.RowKit Go.Deep
set_option maxRecDepth 100000

theorem one_news (w : World) (x : Int) : ∀ j u, [Value.int .u8 x][j]? = some u → (w.alloc (.cells #[.int .u8 x] 5)).cell? ((⟨w.heap.size, 0, none⟩ : Addr).add j) = some u := by
  intro j u hj
  have hj0 : j = 0 := by
    cases j with
    | zero => rfl
    | succ j => simp at hj
  subst hj0
  simp at hj
  subst hj
  simp [Addr.add, go_sem]
theorem Row8.ge {w : World} {B g n cap : Nat} {bs : List Int} (h : Row8 w B g n cap bs) : B ≤ g := by
  rcases h.1.2 with ⟨h, _⟩ | ⟨g', cap', cur, hv, hB, _⟩
  · cases h
  · cases hv; exact hB
theorem oneCell_map (bs : List Int) : ∀ u ∈ bs.map (Value.int .u8), u.oneCell' = true := by
  intro u hu
  obtain ⟨x, _, rfl⟩ := List.mem_map.1 hu
  rfl
/-- A row that has grown. -/
theorem Row8.grown {w3 : World} {B g n cap : Nat} {us bs : List Int} {vs : List Value} (h : w3.ownsRow B 5 1 (.slice (some ⟨g, 0, none⟩) n cap) n (us.map (Value.int .u8) ++ vs)) (hv : vs = bs.map (Value.int .u8)) (hl : g < w3.heap.size) : Row8 w3 B g n cap (us ++ bs) := by
  subst hv
  rw [← List.map_append] at h
  exact ⟨h, hl⟩

theorem Row8.news {w : World} {B g n cap : Nat} {bs : List Int} (h : Row8 w B g n cap bs) : ∀ j u, (bs.map (Value.int .u8))[j]? = some u → w.cell? ((⟨g, 0, none⟩ : Addr).add j) = some u := by
  intro j u hj
  obtain ⟨⟨h1, h2⟩, hl⟩ := h
  rcases h2 with ⟨h2, _⟩ | ⟨g', cap', cur, hv, hB, hh, hle, _, hsz, htk⟩
  · cases h2
  · cases hv
    have ea : (⟨g, 0, none⟩ : Addr).add j = ⟨g, 0 + j, none⟩ := by
      by_cases h0 : j = 0 <;> simp [Addr.add, h0]
    rw [ea, ← hj, ← htk, List.getElem?_take]
    have hjl : j < bs.length := by
      apply Classical.byContradiction
      intro hn
      rw [List.getElem?_eq_none (by simp; omega)] at hj
      cases hj
    have hbl : bs.length = n := by simpa using h1
    rw [if_pos (by omega)]
    simp [World.cell?, hh]
theorem digitsL_pos (n : Nat) : 1 ≤ (digitsL n).length := by
  by_cases h : n < 10
  · rw [digitsL_small h]; simp
  · rw [digitsL_step h]; simp

end Go.Proofs.YtganfiajhokkmaaDoor

/- ShwC -/
namespace Go.Proofs.YtganfiajhokkmaaDoor
open Go.RowKit Go.Deep
set_option maxRecDepth 100000

/-- A text's bytes as they are written. -/
def esc (bs : List Int) : List Int := bs.flatMap fun b => if b = 34 ∨ b = 92 then [92, b] else [b]
theorem esc_snoc (bs : List Int) (b : Int) : esc (bs ++ [b]) = esc bs ++ (if b = 34 ∨ b = 92 then [92, b] else [b]) := by simp [esc]
theorem esc_len (bs : List Int) : (esc bs).length ≤ 2 * bs.length := by
  induction bs with
  | nil => simp [esc]
  | cons b bs ih =>
    have : esc (b :: bs) = (if b = 34 ∨ b = 92 then [92, b] else [b]) ++ esc bs := rfl
    rw [this]
    split <;> simp <;> omega
theorem take_snoc (bs : List Int) (k : Nat) (h : k < bs.length) : bs.take (k + 1) = bs.take k ++ [bs[k]?.getD 0] := by
  rw [List.take_add_one, List.getElem?_eq_getElem h]
  rfl

set_option maxHeartbeats 1000000 in
theorem quoted_any (a : Option Addr) (len cap : Nat) (bs : List Int) (w : World) (hB : Bs w a len bs) :
    Calls Tryd.prog 40 #[.slice a len cap] w fun e w' => DigRes w (34 :: (esc bs ++ [34])) e w' := by
  obtain ⟨i0, hi0, hzz⟩ := Option.map_eq_some_iff.1 Tryd.info5
  simp only [Prod.mk.injEq] at hzz
  obtain ⟨hi2, hi1, hi3⟩ := hzz
  have hlen := hB.1
  have h20 := hB.2.1
  have HR0 : Hid (Row8 (w.alloc (.cells #[.int .u8 34] 5)) w.heap.size w.heap.size 1 1 [34]) := Row8.new w 34
  have HBs : Hid (Bs w a len bs) := hB
  have HL : Hid (bs.length = len) := hlen
  clear hB hlen
  go_enter Tryd.func40, Tryd.ntmps40
  go_wp2_with fail
  go_loopw [3, 9] (fun x i wr => ∃ (k g n cap' : Nat), k ≤ len ∧ i = .int .i64 k ∧ x = .slice (some ⟨g, 0, none⟩) n cap' ∧ n ≤ 1 + 2 * k ∧ Hid (Row8 wr w.heap.size g n cap' (34 :: esc (bs.take k))) ∧ Hid (Below w.heap.size w wr))
    (fun _ i _ => len - (intOf i).toNat)
  case atStart => exact ⟨0, w.heap.size, 1, 1, Nat.zero_le _, rfl, rfl, by omega, HR0, bl_a _⟩
  case round =>
    obtain ⟨k, g, n, cap', hk, rfl, rfl, hn, HR, HB⟩ := hrel
    clear HR0
    by_cases hlk : k < len
    · obtain ⟨b, off, rfl, hbl, hc⟩ := HBs.out.2.2.2.resolve_left (by omega)
      have hx := (HB.out.cell (p := ⟨b, off + k, none⟩) hbl).trans (hc k hlk)
      have hv := HBs.out.2.2.1 k
      have HE : Hid (esc (bs.take (k + 1)) = esc (bs.take k) ++ (if bs[k]?.getD 0 = 34 ∨ bs[k]?.getD 0 = 92 then [92, bs[k]?.getD 0] else [bs[k]?.getD 0])) := by
        show _ = _
        rw [take_snoc bs k (by have := HL.out; omega), esc_snoc]
      clear hc
      generalize bs[k]?.getD 0 = v at *
      have HR1 : ∀ y : Int, Hid (Row8 (wr.alloc (.cells #[.int .u8 y] 5)) w.heap.size g n cap' (34 :: esc (bs.take k))) := fun y => HR.out.below (bl_a _)
      have HB1 : ∀ y : Int, Hid (Below w.heap.size w (wr.alloc (.cells #[.int .u8 y] 5))) := fun y => bl_alloc HB.out _
      by_cases hq : v = 34 ∨ v = 92
      · have HE' : Hid (esc (bs.take (k + 1)) = esc (bs.take k) ++ [92, v]) := by show _ = _; rw [HE.out, if_pos hq]
        clear HE
        have hor : ((v == 34) || (v == 92)) = true := by simpa using hq
        cases h34 : (v == 34)
        · have h92 : (v == 92) = true := by simpa [h34] using hor
          clear hq hor
          go_wp2_with (first
            | (refine wpList_append_lies _ rfl (.tmp 19) (.tmp 20) 22 rfl w.heap.size 5 i0 (.int .u8 0) 1 1 Tryd.underlying22 hi0 hi2 hi1 hi3 rfl (by omega) (.slice (some ⟨g, 0, none⟩) n cap') n ((34 :: esc (bs.take k)).map (Value.int .u8)) rfl (HR1 92).out.1 ⟨wr.heap.size, 0, none⟩ 1 _ [.int .u8 92] rfl rfl (one_news wr 92) (by simp [Value.oneCell']) (by omega) (by unfold maxLen; omega) (by omega) (HB1 92).out.size _ rfl ?_; intro g3 cap3 w3 hown3 hgr3 hgg3 hlt3; have hr3 : Row8 w3 w.heap.size g3 (n + 1) cap3 ((34 :: esc (bs.take k)) ++ [92]) := Row8.grown (us := 34 :: esc (bs.take k)) (bs := [92]) hown3 rfl hlt3; have hb3 : Below w.heap.size w w3 := (HB1 92).out.trans (grown_below (g := g) hgr3 HR.out.ge (HB1 92).out.size); clear hown3 hgr3 hgg3; have HR3 : Hid (Row8 (w3.alloc (.cells #[.int .u8 v] 5)) w.heap.size g3 (n + 1) cap3 ((34 :: esc (bs.take k)) ++ [92])) := hr3.below (bl_a _); have HB3 : Hid (Below w.heap.size w (w3.alloc (.cells #[.int .u8 v] 5))) := bl_alloc hb3 _; clear hr3 hb3)
            | (refine wpList_append_lies _ rfl (.tmp 22) (.tmp 24) 22 rfl w.heap.size 5 i0 (.int .u8 0) 1 1 Tryd.underlying22 hi0 hi2 hi1 hi3 rfl (by omega) (.slice (some ⟨g3, 0, none⟩) (n + 1) cap3) (n + 1) (((34 :: esc (bs.take k)) ++ [92]).map (Value.int .u8)) rfl HR3.out.1 ⟨w3.heap.size, 0, none⟩ 1 _ [.int .u8 v] rfl rfl (one_news w3 v) (by simp [Value.oneCell']) (by omega) (by unfold maxLen; omega) (by omega) HB3.out.size _ rfl ?_; intro g4 cap4 w4 hown4 hgr4 hgg4 hlt4; have HR4 : Hid (Row8 w4 w.heap.size g4 (n + 1 + 1) cap4 (((34 :: esc (bs.take k)) ++ [92]) ++ [v])) := Row8.grown (us := (34 :: esc (bs.take k)) ++ [92]) (bs := [v]) hown4 rfl hlt4; have HB4 : Hid (Below w.heap.size w w4) := HB3.out.trans (grown_below (g := g3) hgr4 HR3.out.ge HB3.out.size); clear hown4 hgr4 hgg4))
          go_roundw
          case rel =>
            refine ⟨k + 1, g4, n + 1 + 1, cap4, by omega, by go_num, rfl, by omega, ?_, HB4⟩
            have h := HR4.out
            show Row8 _ _ _ _ _ _
            rw [HE'.out]
            simpa using h
          case measure => simp [intOf]; omega
        · clear hq hor
          go_wp2_with (first
            | (refine wpList_append_lies _ rfl (.tmp 19) (.tmp 20) 22 rfl w.heap.size 5 i0 (.int .u8 0) 1 1 Tryd.underlying22 hi0 hi2 hi1 hi3 rfl (by omega) (.slice (some ⟨g, 0, none⟩) n cap') n ((34 :: esc (bs.take k)).map (Value.int .u8)) rfl (HR1 92).out.1 ⟨wr.heap.size, 0, none⟩ 1 _ [.int .u8 92] rfl rfl (one_news wr 92) (by simp [Value.oneCell']) (by omega) (by unfold maxLen; omega) (by omega) (HB1 92).out.size _ rfl ?_; intro g3 cap3 w3 hown3 hgr3 hgg3 hlt3; have hr3 : Row8 w3 w.heap.size g3 (n + 1) cap3 ((34 :: esc (bs.take k)) ++ [92]) := Row8.grown (us := 34 :: esc (bs.take k)) (bs := [92]) hown3 rfl hlt3; have hb3 : Below w.heap.size w w3 := (HB1 92).out.trans (grown_below (g := g) hgr3 HR.out.ge (HB1 92).out.size); clear hown3 hgr3 hgg3; have HR3 : Hid (Row8 (w3.alloc (.cells #[.int .u8 v] 5)) w.heap.size g3 (n + 1) cap3 ((34 :: esc (bs.take k)) ++ [92])) := hr3.below (bl_a _); have HB3 : Hid (Below w.heap.size w (w3.alloc (.cells #[.int .u8 v] 5))) := bl_alloc hb3 _; clear hr3 hb3)
            | (refine wpList_append_lies _ rfl (.tmp 22) (.tmp 24) 22 rfl w.heap.size 5 i0 (.int .u8 0) 1 1 Tryd.underlying22 hi0 hi2 hi1 hi3 rfl (by omega) (.slice (some ⟨g3, 0, none⟩) (n + 1) cap3) (n + 1) (((34 :: esc (bs.take k)) ++ [92]).map (Value.int .u8)) rfl HR3.out.1 ⟨w3.heap.size, 0, none⟩ 1 _ [.int .u8 v] rfl rfl (one_news w3 v) (by simp [Value.oneCell']) (by omega) (by unfold maxLen; omega) (by omega) HB3.out.size _ rfl ?_; intro g4 cap4 w4 hown4 hgr4 hgg4 hlt4; have HR4 : Hid (Row8 w4 w.heap.size g4 (n + 1 + 1) cap4 (((34 :: esc (bs.take k)) ++ [92]) ++ [v])) := Row8.grown (us := (34 :: esc (bs.take k)) ++ [92]) (bs := [v]) hown4 rfl hlt4; have HB4 : Hid (Below w.heap.size w w4) := HB3.out.trans (grown_below (g := g3) hgr4 HR3.out.ge HB3.out.size); clear hown4 hgr4 hgg4))
          go_roundw
          case rel =>
            refine ⟨k + 1, g4, n + 1 + 1, cap4, by omega, by go_num, rfl, by omega, ?_, HB4⟩
            have h := HR4.out
            show Row8 _ _ _ _ _ _
            rw [HE'.out]
            simpa using h
          case measure => simp [intOf]; omega
      · have HE' : Hid (esc (bs.take (k + 1)) = esc (bs.take k) ++ [v]) := by show _ = _; rw [HE.out, if_neg hq]
        have h34 : (v == 34) = false := by simp; omega
        have h92 : (v == 92) = false := by simp; omega
        clear HE hq
        go_wp2_with (refine wpList_append_lies _ rfl (.tmp 22) (.tmp 24) 22 rfl w.heap.size 5 i0 (.int .u8 0) 1 1 Tryd.underlying22 hi0 hi2 hi1 hi3 rfl (by omega) (.slice (some ⟨g, 0, none⟩) n cap') n ((34 :: esc (bs.take k)).map (Value.int .u8)) rfl (HR1 v).out.1 ⟨wr.heap.size, 0, none⟩ 1 _ [.int .u8 v] rfl rfl (one_news wr v) (by simp [Value.oneCell']) (by omega) (by unfold maxLen; omega) (by omega) (HB1 v).out.size _ rfl ?_; intro g4 cap4 w4 hown4 hgr4 hgg4 hlt4; have HR4 : Hid (Row8 w4 w.heap.size g4 (n + 1) cap4 ((34 :: esc (bs.take k)) ++ [v])) := Row8.grown (us := 34 :: esc (bs.take k)) (bs := [v]) hown4 rfl hlt4; have HB4 : Hid (Below w.heap.size w w4) := (HB1 v).out.trans (grown_below (g := g) hgr4 HR.out.ge (HB1 v).out.size); clear hown4 hgr4 hgg4)
        go_roundw
        case rel =>
          refine ⟨k + 1, g4, n + 1, cap4, by omega, by go_num, rfl, by omega, ?_, HB4⟩
          have := HR4.out
          show Row8 _ _ _ _ _ _
          rw [HE'.out]
          exact this
        case measure => simp [intOf]; omega
    · obtain rfl : k = len := by omega
      have HR' : Hid (Row8 wr w.heap.size g n cap' (34 :: esc bs)) := by
        have := HR.out
        rwa [List.take_of_length_le (by have := HL.out; omega)] at this
      have HR1 : Hid (Row8 (wr.alloc (.cells #[.int .u8 34] 5)) w.heap.size g n cap' (34 :: esc bs)) := HR'.out.below (bl_a _)
      have HB1 : Hid (Below w.heap.size w (wr.alloc (.cells #[.int .u8 34] 5))) := bl_alloc HB.out _
      have HNL : Hid (n = (34 :: esc bs : List Int).length) := by
        have := HR'.out.1.1
        show _ = _
        simpa using this.symm
      clear HR
      go_wp2_with (refine wpList_append_lies _ rfl (.tmp 27) (.tmp 28) 22 rfl w.heap.size 5 i0 (.int .u8 0) 1 1 Tryd.underlying22 hi0 hi2 hi1 hi3 rfl (by omega) (.slice (some ⟨g, 0, none⟩) n cap') n ((34 :: esc bs).map (Value.int .u8)) rfl HR1.out.1 ⟨wr.heap.size, 0, none⟩ 1 _ [.int .u8 34] rfl rfl (one_news wr 34) (by simp [Value.oneCell']) (by omega) (by unfold maxLen; omega) (by omega) HB1.out.size _ rfl ?_; intro g4 cap4 w4 hown4 hgr4 hgg4 hlt4; have hr4 := Row8.grown (us := 34 :: esc bs) (bs := [34]) hown4 rfl hlt4; have hb4 : Below w.heap.size w w4 := HB1.out.trans (grown_below (g := g) hgr4 HR'.out.ge HB1.out.size); clear hown4 hgr4 hgg4)
      go_ret
      have el : (34 :: (esc bs ++ [34]) : List Int).length = n + 1 := by rw [HNL.out]; simp
      exact ⟨g4, cap4, by rw [el]; rfl, by rw [el]; exact hr4, hb4⟩
end Go.Proofs.YtganfiajhokkmaaDoor

/- ShwF -/
namespace Go.Proofs.YtganfiajhokkmaaDoor
open Go.RowKit Go.Deep
set_option maxRecDepth 100000

/-- What a number shows as, less its sign. -/
def numL (n : Int) (s : Nat) : List Int :=
  digitsL (n / p10 s).toNat ++ (if s = 0 then [] else 46 :: (List.replicate (s - (digitsL (n % p10 s).toNat).length) 48 ++ digitsL (n % p10 s).toNat))

theorem below_nil {w w' : World} {B : Nat} (h : w.grownBy w' none) (hw : B ≤ w.heap.size) : Below B w w' :=
  ⟨h.os, h.tape, h.output, h.size, fun b hb => h.block b (by omega) (by simp)⟩

end Go.Proofs.YtganfiajhokkmaaDoor

/- ShwG -/
namespace Go.Proofs.YtganfiajhokkmaaDoor
open Go.RowKit Go.Deep
set_option maxRecDepth 100000

/-- append of bytes to a row of bytes of the call's own (or to none as yet): the row, and what is left of what was there. -/
theorem app8 {ops : Array Oper} {rest : List Oper} {o : Oper} {a : Act} {Q : Exit → Act → World → Prop} {w : World} (hgd : o.guard = none) (s x : Operand)
    (ho : o.op = .call { callee := .builtin .append, args := #[s, x], argTypes := #[22, 22] })
    (B : Nat) (v : Value) (n : Nat) (us : List Int) (hs : a.eval s = v) (HO : Hid (w.ownsRow B 5 1 v n (us.map (Value.int .u8))))
    (ad : Addr) (m c : Nat) (bs : List Int) (hx : a.eval x = .slice (some ad) m c) (hl : bs.length = m) (HN : Hid (∀ j u, (bs.map (Value.int .u8))[j]? = some u → w.cell? (ad.add j) = some u))
    (hm : 0 < m) (N : Nat) (hN : n + m = N) (zs : List Int) (hz : us ++ bs = zs) (hle : N ≤ 1000000000) (hB : B ≤ w.heap.size)
    (h : ∀ g cap w', Hid (Row8 w' B g N cap zs) → Hid (w.grownBy w' v.ownBlock) → Hid (v.ownBlock = some g ∨ g = w.heap.size) → Hid (Below B w w') → wpList Tryd.prog ops Q rest (a.put o.dst (.slice (some ⟨g, 0, none⟩) N cap)) w') :
    wpList Tryd.prog ops Q (o :: rest) a w := by
  obtain ⟨i0, hi0, hzz⟩ := Option.map_eq_some_iff.1 Tryd.info5
  simp only [Prod.mk.injEq] at hzz
  obtain ⟨hi2, hi1, hi3⟩ := hzz
  subst hN hz
  refine wpList_append_lies _ hgd s x 22 ho B 5 i0 (.int .u8 0) 1 1 Tryd.underlying22 hi0 hi2 hi1 hi3 rfl (by omega) v n (us.map (Value.int .u8)) hs HO.out ad m c (bs.map (Value.int .u8)) hx (by simp [hl]) HN.out (oneCell_map bs) hm (by unfold maxLen; omega) (by omega) hB _ rfl ?_
  intro g cap w' hown hgr hat hlt
  refine h g cap w' (Row8.grown hown rfl hlt) hgr hat ?_
  rcases HO.out.2 with ⟨hv, _⟩ | ⟨g0, c0, cur, hv, hb, _⟩
  · subst hv
    exact below_nil hgr hB
  · subst hv
    exact grown_below (g := g0) hgr hb hB

theorem Row8.own {w : World} {B g n cap : Nat} {bs : List Int} (h : Row8 w B g n cap bs) : Hid (w.ownsRow B 5 1 (.slice (some ⟨g, 0, none⟩) n cap) n (bs.map (Value.int .u8))) := h.1
theorem Row8.len {w : World} {B g n cap : Nat} {bs : List Int} (h : Row8 w B g n cap bs) : bs.length = n := by simpa using h.1.1
end Go.Proofs.YtganfiajhokkmaaDoor

/- ShwH -/
namespace Go.Proofs.YtganfiajhokkmaaDoor
open Go.RowKit Go.Deep
set_option maxRecDepth 100000

/-- What a term that may be shows as. -/
def showL (k n s : Int) (bs : List Int) : List Int :=
  if k = 0 then 60 :: (bs ++ [62]) else if k = 1 then 95 :: 58 :: digitsL n.toNat else if k = 2 then 34 :: (esc bs ++ [34]) else if n < 0 then 45 :: numL (-n) s.toNat else numL n s.toNat
/-- What Show writes. -/
def shownL (k n s : Int) (bs : List Int) : List Int := if termOk k bs n s = true then showL k n s bs else []

theorem digitsL_byt (n : Nat) : Byt (digitsL n) := by
  induction n using Nat.strongRecOn with
  | ind n ih =>
    by_cases h : n < 10
    · rw [digitsL_small h]
      exact Byt.cons (by omega) Byt.nil
    · rw [digitsL_step h]
      exact (ih (n / 10) (by omega)).app (Byt.cons (by omega) Byt.nil)
theorem esc_byt {bs : List Int} (h : Byt bs) : Byt (esc bs) := by
  intro x hx
  unfold esc at hx
  obtain ⟨b, hb, hx⟩ := List.mem_flatMap.1 hx
  have := h b hb
  split at hx
  · simp at hx
    rcases hx with rfl | rfl
    · omega
    · exact this
  · simp at hx
    subst hx
    exact this
theorem rep_byt (n : Nat) : Byt (List.replicate n 48) := by
  intro x hx
  have := (List.mem_replicate.1 hx).2
  omega
theorem numL_byt (n : Int) (s : Nat) : Byt (numL n s) := by
  unfold numL
  refine (digitsL_byt _).app ?_
  split
  · exact Byt.nil
  · exact Byt.cons (by omega) ((rep_byt _).app (digitsL_byt _))
theorem showL_byt {k n s : Int} {bs : List Int} (h : Byt bs) : Byt (showL k n s bs) := by
  unfold showL
  split
  · exact Byt.cons (by omega) (h.app (Byt.cons (by omega) Byt.nil))
  split
  · exact Byt.cons (by omega) (Byt.cons (by omega) (digitsL_byt _))
  split
  · exact Byt.cons (by omega) ((esc_byt h).app (Byt.cons (by omega) Byt.nil))
  split
  · exact Byt.cons (by omega) (numL_byt _ _)
  · exact numL_byt _ _
theorem numOk_bounds {n s : Int} (h : numOk n s = true) : 0 ≤ s ∧ s ≤ 6 ∧ -1000000000000000 ≤ n ∧ n ≤ 1000000000000000 := by
  simp [numOk] at h
  exact ⟨h.1.1.1.1, h.1.1.1.2, h.1.1.2, h.1.2⟩
theorem numL_len (n : Int) (s : Nat) (h0 : 0 ≤ n) (h1 : n ≤ 1000000000000000) (hs : s ≤ 6) : 1 ≤ (numL n s).length ∧ (numL n s).length ≤ 40 := by
  have hp := p10_pos s
  have hp6 := p10_le hs
  have d0 : 0 ≤ n / p10 s := Int.ediv_nonneg h0 (by omega)
  have d1 : n / p10 s ≤ n := Int.ediv_le_self _ h0
  have m0 : 0 ≤ n % p10 s := Int.emod_nonneg _ (by omega)
  have m1 : n % p10 s < p10 s := Int.emod_lt_of_pos _ (by omega)
  have hL1 := digitsL_len 16 (n / p10 s).toNat (by omega)
  have hL2 := digitsL_len 6 (n % p10 s).toNat (by omega)
  have hq1 := digitsL_pos (n / p10 s).toNat
  unfold numL
  split
  · simp; omega
  · simp; omega
theorem showL_len {k n s : Int} {bs : List Int} (h : termOk k bs n s = true) : 1 ≤ (showL k n s bs).length ∧ (showL k n s bs).length ≤ 64 := by
  unfold showL
  unfold termOk at h
  split at h
  · rename_i hk
    rw [if_pos hk]
    simp [nameOk] at h
    simp
    omega
  split at h
  · rename_i h0 hk
    rw [if_neg h0, if_pos hk]
    have := digitsL_len 18 n.toNat (by simp at h; omega)
    simp
    omega
  split at h
  · rename_i h0 h1 hk
    rw [if_neg h0, if_neg h1, if_pos hk]
    simp [textOk] at h
    have := esc_len bs
    simp
    omega
  split at h
  · rename_i h0 h1 h2 hk
    rw [if_neg h0, if_neg h1, if_neg h2]
    simp only [Bool.and_eq_true] at h
    have hb := numOk_bounds h.2
    split
    · have := numL_len (-n) s.toNat (by omega) (by omega) (by omega)
      simp
      omega
    · have := numL_len n s.toNat (by omega) (by omega) (by omega)
      omega
  · cases h
/-- A text that is new: none, or in a block of its own from B on. -/
def Nw (w : World) (B : Nat) (a : Option Addr) (len : Nat) (bs : List Int) : Prop := (a = none ∧ len = 0 ∧ bs = []) ∨ ∃ g, a = some ⟨g, 0, none⟩ ∧ B ≤ g ∧ OwnT w g len bs
theorem Nw.bs {w : World} {B : Nat} {a : Option Addr} {len : Nat} {bs : List Int} (h : Nw w B a len bs) : Bs w a len bs := by
  rcases h with ⟨rfl, rfl, rfl⟩ | ⟨g, rfl, _, ho⟩
  · exact ⟨rfl, by omega, by simp, .inl rfl⟩
  · exact ho.1
theorem Nw.below {w w' : World} {B : Nat} {a : Option Addr} {len : Nat} {bs : List Int} (h : Nw w B a len bs) (hb : Below w.heap.size w w') : Nw w' B a len bs := by
  rcases h with h | ⟨g, ha, hB, ho⟩
  · exact .inl h
  · exact .inr ⟨g, ha, hB, ho.below hb⟩
theorem Nw.mono {w : World} {B B' : Nat} {a : Option Addr} {len : Nat} {bs : List Int} (h : Nw w B a len bs) (hB' : B' ≤ B) : Nw w B' a len bs := by
  rcases h with h | ⟨g, ha, hB, ho⟩
  · exact .inl h
  · exact .inr ⟨g, ha, by omega, ho⟩
theorem Nw.nil (w : World) (B : Nat) : Nw w B none 0 [] := .inl ⟨rfl, rfl, rfl⟩
theorem Row8.nw {w : World} {B g n cap : Nat} {bs : List Int} (h : Row8 w B g n cap bs) (hb : Byt bs) (hl : n ≤ 1048576) : Nw w B (some ⟨g, 0, none⟩) n bs := by
  have hn := h.news
  have hge := h.ge
  have hlen := h.len
  refine .inr ⟨g, rfl, hge, ⟨hlen, hl, hb.get, .inr ⟨g, 0, rfl, h.2, fun i hi => ?_⟩⟩, h.2, fun i hi => ?_, fun i hi => ?_⟩
  · have ea : (⟨g, 0, none⟩ : Addr).add i = ⟨g, 0 + i, none⟩ := by
      by_cases h0 : i = 0 <;> simp [Addr.add, h0]
    rw [← ea]
    refine hn i _ ?_
    rw [List.getElem?_map, List.getElem?_eq_getElem (by omega)]
    rfl
  · have ea : (⟨g, 0, none⟩ : Addr).add i = ⟨g, i, none⟩ := by
      by_cases h0 : i = 0 <;> simp [Addr.add, h0]
    refine ⟨bs[i]?.getD 0, ?_⟩
    rw [← ea]
    refine hn i _ ?_
    rw [List.getElem?_map, List.getElem?_eq_getElem (by omega)]
    rfl
  · rcases h.1.2 with ⟨hv, _⟩ | ⟨g', cap', cur, hv, hB, hh, _⟩
    · cases hv
    · cases hv
      simp [World.frozen?, hh]
theorem Tx.nw {w : World} {B : Nat} {a : Option Addr} {len cap : Nat} {bs : List Int} (h : Tx w B a len cap bs) : Nw w B a len bs := by
  rcases h.2 with ⟨rfl, rfl, _⟩ | ⟨g, rfl, hB, hg, hl, hc⟩
  · exact .inl ⟨rfl, rfl, List.eq_nil_of_length_eq_zero h.1.1⟩
  · exact .inr ⟨g, rfl, hB, h.1, hg, fun i hi => (hc i (by omega)).1, fun i hi => (hc i (by omega)).2⟩

/-- What Show answers. -/
def TxRes (w : World) (bs : List Int) (e : Ending) (w' : World) : Prop := ∃ a cap, e = .returned (.slice a bs.length cap) ∧ Nw w' w.heap.size a bs.length bs ∧ Below w.heap.size w w'
theorem DigRes.tx {w : World} {bs : List Int} {e : Ending} {w' : World} (h : DigRes w bs e w') (hb : Byt bs) (hl : bs.length ≤ 1048576) : TxRes w bs e w' := by
  obtain ⟨g, cap, he, hr, hbl⟩ := h
  exact ⟨_, cap, he, hr.nw hb hl, hbl⟩
theorem TxRes.later {w w1 : World} {bs : List Int} {e : Ending} {w' : World} (h : TxRes w1 bs e w') (hb : Below w.heap.size w w1) : TxRes w bs e w' := by
  obtain ⟨a, cap, he, hr, hbl⟩ := h
  exact ⟨a, cap, he, hr.mono hb.size, bl_trans hb hbl⟩
theorem DigRes.later {w w1 : World} {bs : List Int} {e : Ending} {w' : World} (h : DigRes w1 bs e w') (hb : Below w.heap.size w w1) : DigRes w bs e w' := by
  obtain ⟨g, cap, he, hr, hbl⟩ := h
  exact ⟨g, cap, he, hr.mono hb.size, bl_trans hb hbl⟩

end Go.Proofs.YtganfiajhokkmaaDoor

/- GraC -/
namespace Go.Proofs.YtganfiajhokkmaaDoor
open Go.RowKit Go.Deep

/-- All of the first N places of block g are there. -/
def Ex (w : World) (g N : Nat) : Prop := ∀ j, j < N → ∃ v, w.cell? ⟨g, j, none⟩ = some v
theorem Ex.set {w : World} {g N i : Nat} {v : Value} (h : Ex w g N) : Ex (w.setCell ⟨g, i, none⟩ v) g N := by
  intro j hj
  obtain ⟨u, hu⟩ := h j hj
  by_cases e : j = i
  · subst e; exact ⟨v, set_same hu⟩
  · exact ⟨u, by rw [set_other e]; exact hu⟩
theorem Ex.put {w : World} {g N i0 i1 i2 i3 : Nat} {x : Tm} (h : Ex w g N) : Ex (put4 w g i0 i1 i2 i3 x) g N := (((h.set).set).set).set
theorem Ex.below {w w' : World} {g N : Nat} (h : Ex w g N) (hg : g < w.heap.size) (hb : Below w.heap.size w w') : Ex w' g N := fun j hj => by
  obtain ⟨u, hu⟩ := h j hj
  exact ⟨u, (hb.cell (p := ⟨g, j, none⟩) hg).trans hu⟩
/-- .. and may be written. -/
def Wr (w : World) (g N : Nat) : Prop := ∀ j, j < N → w.frozen? ⟨g, j, none⟩ = false
theorem Wr.put {w : World} {g N i0 i1 i2 i3 : Nat} {x : Tm} (h : Wr w g N) : Wr (put4 w g i0 i1 i2 i3 x) g N := fun j hj => by simp [put4, h j hj]
theorem Wr.below {w w' : World} {g N : Nat} (h : Wr w g N) (hg : g < w.heap.size) (hb : Below w.heap.size w w') : Wr w' g N := fun j hj => (hb.frozen (p := ⟨g, j, none⟩) hg).trans (h j hj)

/-- A triple written at place o. -/
def put12 (w : World) (g o : Nat) (t u v : Tm) : World := put4 (put4 (put4 w g o (o + 1) (o + 2) (o + 3) t) g (o + 4) (o + 5) (o + 6) (o + 7) u) g (o + 8) (o + 9) (o + 10) (o + 11) v
theorem put4_at {w : World} {g o : Nat} {t : Tm} {N : Nat} (h : Ex w g N) (ho : o + 3 < N) :
    (put4 w g o (o + 1) (o + 2) (o + 3) t).cell? ⟨g, o, none⟩ = some (.int .i64 t.k) ∧ (put4 w g o (o + 1) (o + 2) (o + 3) t).cell? ⟨g, o + 1, none⟩ = some (.slice t.a t.len t.cap) ∧ (put4 w g o (o + 1) (o + 2) (o + 3) t).cell? ⟨g, o + 2, none⟩ = some (.int .i64 t.n) ∧ (put4 w g o (o + 1) (o + 2) (o + 3) t).cell? ⟨g, o + 3, none⟩ = some (.int .i64 t.s) := by
  unfold put4
  refine ⟨?_, ?_, ?_, ?_⟩
  · obtain ⟨u, hu⟩ := h o (by omega)
    rw [set_other (by omega), set_other (by omega), set_other (by omega)]
    exact set_same hu
  · obtain ⟨u, hu⟩ := h.set (i := o) (v := .int .i64 t.k) (o + 1) (by omega)
    rw [set_other (by omega), set_other (by omega)]
    exact set_same hu
  · obtain ⟨u, hu⟩ := (h.set (i := o) (v := .int .i64 t.k)).set (i := o + 1) (v := .slice t.a t.len t.cap) (o + 2) (by omega)
    rw [set_other (by omega)]
    exact set_same hu
  · obtain ⟨u, hu⟩ := ((h.set (i := o) (v := .int .i64 t.k)).set (i := o + 1) (v := .slice t.a t.len t.cap)).set (i := o + 2) (v := .int .i64 t.n) (o + 3) (by omega)
    exact set_same hu
theorem put4_off {w : World} {g o i0 i1 i2 i3 : Nat} {t : Tm} (h : o ≠ i0 ∧ o ≠ i1 ∧ o ≠ i2 ∧ o ≠ i3) : (put4 w g i0 i1 i2 i3 t).cell? ⟨g, o, none⟩ = w.cell? ⟨g, o, none⟩ := by
  unfold put4
  rw [set_other h.2.2.2, set_other h.2.2.1, set_other h.2.1, set_other h.1]
theorem Row12.put {w : World} {g o N : Nat} {t u v : Tm} (h : Ex w g N) (ho : o + 12 ≤ N) : Row12 (put12 w g o t u v) g o t u v := by
  unfold Row12 put12
  have h1 := h.put (i0 := o) (i1 := o + 1) (i2 := o + 2) (i3 := o + 3) (x := t)
  have h2 := h1.put (i0 := o + 4) (i1 := o + 5) (i2 := o + 6) (i3 := o + 7) (x := u)
  have a1 := put4_at (t := t) h (show o + 3 < N by omega)
  have a2 := put4_at (t := u) (o := o + 4) h1 (show o + 4 + 3 < N by omega)
  have a3 := put4_at (t := v) (o := o + 8) h2 (show o + 8 + 3 < N by omega)
  refine ⟨⟨?_, ?_, ?_, ?_⟩, ⟨?_, ?_, ?_, ?_⟩, ⟨?_, ?_, ?_, ?_⟩⟩
  · rw [put4_off (by omega), put4_off (by omega)]; exact a1.1
  · rw [put4_off (by omega), put4_off (by omega)]; exact a1.2.1
  · rw [put4_off (by omega), put4_off (by omega)]; exact a1.2.2.1
  · rw [put4_off (by omega), put4_off (by omega)]; exact a1.2.2.2
  · rw [put4_off (by omega)]; exact a2.1
  · rw [put4_off (by omega)]; exact a2.2.1
  · rw [put4_off (by omega)]; exact a2.2.2.1
  · rw [put4_off (by omega)]; exact a2.2.2.2
  · exact a3.1
  · exact a3.2.1
  · exact a3.2.2.1
  · exact a3.2.2.2
/-- A row of triples of the call's own, its texts too. -/
structure Copied (w : World) (g n : Nat) (T U V : Nat → Tm) (bt bu bv : Nat → List Int) (G1 G2 G3 : Nat → Nat) : Prop where
  row : ∀ i, i < n → Row12 w g (i * 12) ((T i).own (G1 i)) ((U i).own (G2 i)) ((V i).own (G3 i))
  t1 : ∀ i, i < n → OwnT w (G1 i) (T i).len (bt i)
  t2 : ∀ i, i < n → OwnT w (G2 i) (U i).len (bu i)
  t3 : ∀ i, i < n → OwnT w (G3 i) (V i).len (bv i)
  g1 : ∀ i, i < n → g < G1 i
  g2 : ∀ i, i < n → g < G2 i
  g3 : ∀ i, i < n → g < G3 i
  wr : Wr w g (n * 12)
theorem Copied.below {w w' : World} {g n : Nat} {T U V : Nat → Tm} {bt bu bv : Nat → List Int} {G1 G2 G3 : Nat → Nat} (h : Copied w g n T U V bt bu bv G1 G2 G3) (hg : g < w.heap.size) (hb : Below w.heap.size w w') : Copied w' g n T U V bt bu bv G1 G2 G3 :=
  ⟨fun i hi => (h.row i hi).of_block (hb.block g hg), fun i hi => (h.t1 i hi).below hb, fun i hi => (h.t2 i hi).below hb, fun i hi => (h.t3 i hi).below hb, h.g1, h.g2, h.g3, h.wr.below hg hb⟩
end Go.Proofs.YtganfiajhokkmaaDoor

/- GraE -/
namespace Go.Proofs.YtganfiajhokkmaaDoor
open Go.RowKit Go.Deep

theorem Copied.set {w : World} {g n c i : Nat} {x : Value} {T U V : Nat → Tm} {bt bu bv : Nat → List Int} {G1 G2 G3 : Nat → Nat} (h : Copied w g n T U V bt bu bv G1 G2 G3) (hc : c < g) : Copied (w.setCell ⟨c, i, none⟩ x) g n T U V bt bu bv G1 G2 G3 := by
  have hB : But c w (w.setCell ⟨c, i, none⟩ x) := (But.refl c w).set i x
  exact ⟨fun j hj => (h.row j hj).of_block (hB.block g (by omega)), fun j hj => (h.t1 j hj).but hB (by have := h.g1 j hj; omega), fun j hj => (h.t2 j hj).but hB (by have := h.g2 j hj; omega), fun j hj => (h.t3 j hj).but hB (by have := h.g3 j hj; omega), h.g1, h.g2, h.g3, fun j hj => by rw [hB.frozen (p := ⟨g, j, none⟩) (by show g ≠ c; omega)]; exact h.wr j hj⟩
theorem Copied.rows {w : World} {g n : Nat} {T U V : Nat → Tm} {bt bu bv : Nat → List Int} {G1 G2 G3 : Nat → Nat} (h : Copied w g n T U V bt bu bv G1 G2 G3) (hg : g < w.heap.size) :
    Rows w (some ⟨g, 0, none⟩) n (fun i => (T i).own (G1 i)) (fun i => (U i).own (G2 i)) (fun i => (V i).own (G3 i)) :=
  .inr ⟨g, 0, rfl, hg, fun i hi => by rw [Nat.zero_add]; exact h.row i hi⟩

end Go.Proofs.YtganfiajhokkmaaDoor

/- TreL -/
namespace Go.Proofs.YtganfiajhokkmaaDoor
open Go.RowKit Go.Deep
set_option maxRecDepth 100000

theorem VL.ne {w0 w : World} {B : Nat} {v : Value} {L : List SL} (h : VL w0 w B v L) : v.ownBlock ≠ some w.heap.size := fun e => by have := (h.lo _ e).2; omega
theorem Kp.ne {v v' : Value} {w W wr : World} {o : Obj} (h : Kp v W v' wr) (hW : W = w.alloc o) (hv : v.ownBlock ≠ some w.heap.size) : v'.ownBlock ≠ some w.heap.size := fun e => by
  rcases h.blk _ e with e' | e'
  · exact hv e'
  · rw [hW] at e'
    have : (w.alloc o).heap.size = w.heap.size + 1 := by simp
    omega
end Go.Proofs.YtganfiajhokkmaaDoor
