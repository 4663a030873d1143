/- Texts put together: TreM TreO TreP TreT TreU TreZ TrvA OpnC ShwI ShwJ -/
import Derived.Test.YtganfiajhokkmaaDoorNk07
import Derived.Test.YtganfiajhokkmaaDoorNk03
import Derived.Test.YtganfiajhokkmaaDoorNk01
import Derived.Test.YtganfiajhokkmaaDoorShf
import Derived.WalkSmall
/- TreM -/
namespace Go.Proofs.YtganfiajhokkmaaDoor
open Go.RowKit Go.Deep
set_option maxRecDepth 100000

/-- A list that is being made: what is known of it within a function whose argument lies in a box. -/
structure LS (w0 w W : World) (B : Nat) (v0 v : Value) (L : List SL) (cs : List Value) (W' : World) : Prop where
  vl : VL w0 W' B v L
  kp : Kp v0 W v W'
  bx : Box W' w.heap.size cs
  bl : Below w0.heap.size w0 W'
  lo : B ≤ W'.heap.size
  ne : v.ownBlock ≠ some w.heap.size
theorem LS.below {w0 w W : World} {B : Nat} {v0 v : Value} {L : List SL} {cs : List Value} {W' W'' : World} (h : LS w0 w W B v0 v L cs W') (hb : Below W'.heap.size W' W'') : LS w0 w W B v0 v L cs W'' :=
  ⟨h.vl.below hb, h.kp.trans (Kp.of_below hb), h.bx.below hb, h.bl.trans (hb.mono h.bl.size), Nat.le_trans h.lo hb.size, h.ne⟩
end Go.Proofs.YtganfiajhokkmaaDoor

/- TreO -/
namespace Go.Proofs.YtganfiajhokkmaaDoor
open Go.RowKit Go.Deep
set_option maxRecDepth 100000

theorem isZeroT_any (x : TB) (w : World) (h : BsF 0 w x.sl) :
    Calls Tryd.prog 49 #[.agg #[.int .i64 x.t.k, .slice x.t.a x.t.len x.t.cap, .int .i64 x.t.n, .int .i64 x.t.s]] w (Tells (zeroT x.td) w) := by
  have HL : Hid (x.b = [] ↔ x.t.len = 0) := nil_len h.1.1
  clear h
  by_cases h0 : x.t.k = 0
  rotate_left
  · go_enter Tryd.func49, Tryd.ntmps49
    go_wp2
    go_ret
    exact Tells.no (P := zeroT x.td) (fun hp => h0 hp.1) (bl_a _)
  by_cases h1 : x.t.len = 0
  rotate_left
  · go_enter Tryd.func49, Tryd.ntmps49
    go_wp2
    go_ret
    exact Tells.no (P := zeroT x.td) (fun hp => h1 (HL.out.1 hp.2.1)) (bl_a _)
  by_cases h2 : x.t.n = 0
  rotate_left
  · go_enter Tryd.func49, Tryd.ntmps49
    go_wp2
    go_ret
    exact Tells.no (P := zeroT x.td) (fun hp => h2 hp.2.2.1) (bl_a _)
  by_cases h3 : x.t.s = 0
  rotate_left
  · have h3' : (x.t.s == 0) = false := by simp [h3]
    go_enter Tryd.func49, Tryd.ntmps49
    go_wp2
    go_ret
    exact Tells.no (P := zeroT x.td) (fun hp => h3 hp.2.2.2) (bl_a _)
  · have HP : Hid (zeroT x.td) := ⟨h0, HL.out.2 h1, h2, h3⟩
    go_enter Tryd.func49, Tryd.ntmps49
    go_wp2
    go_ret
    exact Tells.yes HP.out (bl_a _)
end Go.Proofs.YtganfiajhokkmaaDoor

/- TreP -/
namespace Go.Proofs.YtganfiajhokkmaaDoor
open Go.RowKit Go.Deep
set_option maxRecDepth 100000

def BareN (d : EN) : Prop := d.op = 0 ∧ d.v.b = [] ∧ zeroT d.t.td

theorem BareN.mk {d : EN} (h1 : d.op = 0) (h2 : d.v.b = []) (h3 : zeroT d.t.td) : BareN d := And.intro h1 (And.intro h2 h3)

theorem wpl_at {P : Program} {ops : Array Oper} {rest : List Oper} {op : Oper} {a : Act} {w : World} {Q : Exit → Act → World → Prop} (h : wpList P ops Q (op :: rest) a w) : wpList P ops Q (op :: rest) a w := h

end Go.Proofs.YtganfiajhokkmaaDoor

/- TreT -/
namespace Go.Proofs.YtganfiajhokkmaaDoor
open Go.RowKit Go.Deep
set_option maxRecDepth 100000

/-- What IndexFunc answers: -1 exactly if P. -/
def IdxAns (P : Prop) (w : World) (e : Ending) (w' : World) : Prop := ∃ v : Int, e = .returned (.int .i64 v) ∧ (0 ≤ v ↔ ¬ P) ∧ Below w.heap.size w w'
theorem IdxAns.of {P : Prop} {v : Int} {w w' : World} (h : 0 ≤ v ↔ ¬ P) (hb : Below w.heap.size w w') : IdxAns P w (.returned (.int .i64 v)) w' := ⟨v, rfl, h, hb⟩
end Go.Proofs.YtganfiajhokkmaaDoor

/- TreU -/
namespace Go.Proofs.YtganfiajhokkmaaDoor
open Go.RowKit Go.Deep
set_option maxRecDepth 100000

/-- An operation that has nothing but its kind and its Kids. -/
def BareA (d : AN) : Prop := d.pn = 0 ∧ zeroE d.e ∧ d.v.b = [] ∧ d.tb = []
theorem BareA.mk {d : AN} (h1 : d.pn = 0) (h2 : zeroE d.e) (h3 : d.v.b = []) (h4 : d.tb = []) : BareA d := And.intro h1 (And.intro h2 (And.intro h3 h4))
end Go.Proofs.YtganfiajhokkmaaDoor

/- TreZ -/
namespace Go.Proofs.YtganfiajhokkmaaDoor
open Go.RowKit Go.Deep
set_option maxRecDepth 100000

theorem bytesEqual_any (x y : SL) (w : World) (hx : BsF 0 w x) (hy : BsF 0 w y) : Calls Tryd.prog 33 #[.slice x.a x.len x.cap, .slice y.a y.len y.cap] w (Tells (x.b = y.b) w) := by
  have c1 : (convert 22 9 (.slice x.a x.len x.cap)).run Tryd.prog w = .ok (.string (strOfNums x.b)) w := hx.1.str
  have c2 : (convert 22 9 (.slice y.a y.len y.cap)).run Tryd.prog w = .ok (.string (strOfNums y.b)) w := hy.1.str
  by_cases h : x.b = y.b
  · have HY : Hid (x.b = y.b) := h
    rw [h] at c1
    clear h hx hy
    go_enter Tryd.func33, Tryd.ntmps33
    go_wp2_with fail
    go_ret
    exact Tells.yes HY.out (Below.refl _ _)
  · have HNO : Hid (¬ x.b = y.b) := h
    have hs := str_ne hx.1.byt hy.1.byt h
    have hs0 := str_ne2 hx.1.byt hy.1.byt h
    have hs1 : ((strOfNums x.b).toList == (strOfNums y.b).toList) = false := beq_false_of_ne hs0
    have hs2 : decide (strOfNums x.b = strOfNums y.b) = false := decide_eq_false hs
    clear h hx hy
    go_enter Tryd.func33, Tryd.ntmps33
    go_wp2_with fail
    go_ret
    exact Tells.no HNO.out (Below.refl _ _)
theorem hasC_any (x y : SL) (c : Nat) (w : World) (hx : BsF 0 w x) (hy : BsF 0 w y) (hc : w.cell? ⟨c, 0, none⟩ = some (.slice x.a x.len x.cap)) : Calls Tryd.prog 32 #[.slice y.a y.len y.cap, .pointer (some ⟨c, 0, none⟩)] w (Tells (y.b = x.b) w) := by
  have BE := bytesEqual_any y x w hy hx
  clear hx hy
  obtain ⟨P, hP⟩ : ∃ P : Prop, P = (y.b = x.b) := ⟨_, rfl⟩
  rw [← hP] at BE ⊢
  clear hP
  go_enter Tryd.func32, Tryd.ntmps32
  go_wp2_with fail
  refine BE.mono ?_
  rintro e w1 ⟨q, rfl, hq, hb⟩
  have HQ : Hid (q = true ↔ P) := hq
  have HB : Hid (Below w.heap.size w w1) := hb
  clear hq hb BE hc
  go_wp2_with fail
  go_ret
  exact Tells.of HQ.out HB.out
set_option maxHeartbeats 2000000 in
theorem indexV_any (v : Value) (L : List SL) (x : SL) (c B : Nat) (w0 w : World) (h : VL w0 w B v L) (hw : Below w0.heap.size w0 w) (hx : BsF 0 w0 x) (hn : L.length ≤ 1048576) (hcl : c < w.heap.size) (hc : w.cell? ⟨c, 0, none⟩ = some (.slice x.a x.len x.cap)) :
    Calls Tryd.prog 47 #[v, .func (.func 32) #[] #[.pointer (some ⟨c, 0, none⟩)]] w (IdxAns (¬ InL x.b L) w) := by
  obtain ⟨a, cap, rfl, hf⟩ := h.form
  obtain ⟨n, hnn⟩ : ∃ n, n = L.length := ⟨_, rfl⟩
  have HN : Hid (n = L.length) := hnn
  have HT : Hid (∀ y ∈ L, BsF 0 w0 y) := h.txt
  have HX : Hid (BsF 0 w0 x) := hx
  have HW : Hid (Below w0.heap.size w0 w) := hw
  have HCC : Hid (w.cell? ⟨c, 0, none⟩ = some (.slice x.a x.len x.cap)) := hc
  rw [← hnn] at hn ⊢
  by_cases hL : L = []
  · have HNI : Hid (¬ InL x.b L) := (show ¬ (x.b ∈ L.map SL.b) by rw [hL]; simp)
    have hn0 : n = 0 := by rw [hnn, hL]; rfl
    clear h hw hx hf hnn hL hc HN
    subst hn0
    go_enter Tryd.func47, Tryd.ntmps47
    go_wp2_with fail
    go_loopw [8] (fun i wr => i = .int .i64 0 ∧ Hid (Below w.heap.size w wr)) (fun _ _ => 0)
    case atStart => exact ⟨rfl, Below.refl _ _⟩
    case round =>
      obtain ⟨rfl, HB⟩ := hrel
      go_wp2_with fail
      go_ret
      exact IdxAns.of ⟨fun h => absurd h (by decide), fun h => absurd HNI.out h⟩ HB.out
  obtain ⟨g, rfl, _, hg, hcs⟩ := hf.resolve_left hL
  have HCS : Hid (∀ i x, L[i]? = some x → w.cell? ⟨g, i, none⟩ = some (.slice x.a x.len x.cap)) := hcs
  clear h hw hx hf hnn hL hc hcs
  go_enter Tryd.func47, Tryd.ntmps47
  go_wp2_with fail
  go_loopw [8] (fun i wr => ∃ k : Nat, k ≤ n ∧ i = .int .i64 k ∧ Hid (∀ j y, j < k → L[j]? = some y → y.b ≠ x.b) ∧ Hid (Below w.heap.size w wr)) (fun i _ => n - (intOf i).toNat)
  case atStart => exact ⟨0, Nat.zero_le _, rfl, fun j y hj => absurd hj (Nat.not_lt_zero _), Below.refl _ _⟩
  case round =>
    obtain ⟨k, hk, rfl, HNE, HB⟩ := hrel
    by_cases hlk : k < n
    rotate_left
    · obtain rfl : k = n := by omega
      have hlkz : ¬ (k : Int) < (k : Int) := by omega
      have HNI : Hid (¬ InL x.b L) := fun hm => by
        obtain ⟨y, hy, e⟩ := List.mem_map.1 hm
        obtain ⟨j, hj, rfl⟩ := List.getElem_of_mem hy
        exact HNE.out j _ (by rw [HN.out]; exact hj) (List.getElem?_eq_getElem hj) e
      go_wp2_with fail
      go_ret
      exact IdxAns.of ⟨fun h => absurd h (by decide), fun h => absurd HNI.out h⟩ HB.out
    have hlkz : (k : Int) < (n : Int) := by omega
    obtain ⟨y, hy⟩ : ∃ y, L[k]? = some y := ⟨_, List.getElem?_eq_getElem (by rw [← HN.out]; exact hlk)⟩
    have HY : Hid (L[k]? = some y) := hy
    have HTY : Hid (BsF 0 w0 y) := HT.out y (List.mem_of_getElem? hy)
    have y0 : wr.cell? ⟨g, k, none⟩ = some (.slice y.a y.len y.cap) := (HB.out.cell (p := ⟨g, k, none⟩) hg).trans (HCS.out k y hy)
    clear hy
    go_wp2_with fail
    refine (hasC_any x y c wr (HX.out.upper (Upper.of_below (bl_trans HW.out HB.out))) (HTY.out.upper (Upper.of_below (bl_trans HW.out HB.out))) ((HB.out.cell (p := ⟨c, 0, none⟩) hcl).trans HCC.out)).mono ?_
    rintro e w1 ⟨q1, rfl, hq1, hb1⟩
    have HB1 : Hid (Below w.heap.size w w1) := bl_trans HB.out hb1
    clear hb1 HB y0
    cases q1 with
    | true =>
      have HIN : Hid (InL x.b L) := (show x.b ∈ L.map SL.b by rw [← hq1.1 rfl]; exact List.mem_map_of_mem (f := SL.b) (List.mem_of_getElem? HY.out))
      clear hq1
      go_wp2_with fail
      go_ret
      exact IdxAns.of ⟨fun _ h => h HIN.out, fun _ => by omega⟩ HB1.out
    | false =>
      have HYX : Hid (y.b ≠ x.b) := fun hh => by have h := hq1.2 hh; cases h
      clear hq1
      go_wp2_with fail
      go_roundw
      case rel =>
        refine ⟨k + 1, by omega, by go_num, fun j z hj hz => ?_, HB1⟩
        by_cases e : j = k
        · subst e
          rw [HY.out] at hz
          cases hz
          exact HYX.out
        · exact HNE.out j z (by omega) hz
      case measure => simp [intOf]; omega
theorem containsV_any (v : Value) (L : List SL) (x : SL) (c B : Nat) (w0 w : World) (h : VL w0 w B v L) (hw : Below w0.heap.size w0 w) (hx : BsF 0 w0 x) (hn : L.length ≤ 1048576) (hcl : c < w.heap.size) (hc : w.cell? ⟨c, 0, none⟩ = some (.slice x.a x.len x.cap)) :
    Calls Tryd.prog 31 #[v, .func (.func 32) #[] #[.pointer (some ⟨c, 0, none⟩)]] w (Tells (InL x.b L) w) := by
  have IX := indexV_any v L x c B w0 w h hw hx hn hcl hc
  obtain ⟨P, hP⟩ : ∃ P : Prop, P = InL x.b L := ⟨_, rfl⟩
  rw [← hP] at IX ⊢
  obtain ⟨a, cap, rfl, _⟩ := h.form
  clear hP h hw hx hn hcl hc
  go_enter Tryd.func31, Tryd.ntmps31
  go_wp2_with fail
  refine IX.mono ?_
  rintro e w1 ⟨v, rfl, hv, hb⟩
  have HV : Hid (0 ≤ v ↔ ¬ ¬ P) := hv
  have HB : Hid (Below w.heap.size w w1) := hb
  clear IX hv hb
  go_wp2_with fail
  go_ret
  refine Tells.of ?_ HB.out
  rw [← Classical.not_not (a := P), ← HV.out]
  simp
theorem has_any (v : Value) (L : List SL) (x : SL) (B : Nat) (w0 w : World) (h : VL w0 w B v L) (hw : Below w0.heap.size w0 w) (hx : BsF 0 w0 x) (hn : L.length ≤ 1048576) :
    Calls Tryd.prog 18 #[v, .slice x.a x.len x.cap] w (Tells (InL x.b L) w) := by
  have hsz : w0.heap.size ≤ w.heap.size := hw.size
  have HC : Hid (∀ o, (w.alloc o).cell? ⟨w.heap.size, 0, none⟩ = some (.slice x.a x.len x.cap) → Calls Tryd.prog 31 #[v, .func (.func 32) #[] #[.pointer (some ⟨w.heap.size, 0, none⟩)]] (w.alloc o) (Tells (InL x.b L) (w.alloc o))) := fun o ho => containsV_any v L x w.heap.size B w0 (w.alloc o) (h.below (bl_a o)) (hw.trans ((bl_a o).mono hsz)) hx hn (by simp) ho
  obtain ⟨P, hP⟩ : ∃ P : Prop, P = InL x.b L := ⟨_, rfl⟩
  rw [← hP] at HC ⊢
  obtain ⟨a, cap, rfl, _⟩ := h.form
  clear hP h hw hx hn
  go_enter Tryd.func18, Tryd.ntmps18
  go_wp2_with fail
  refine (HC.out _ (by simp [go_sem])).mono ?_
  rintro e w1 ⟨q, rfl, hq, hb⟩
  have HQ : Hid (q = true ↔ P) := hq
  have HB : Hid (Below w.heap.size w w1) := bl_trans (bl_a _) hb
  clear HC hq hb
  go_wp2_with fail
  go_ret
  exact Tells.of HQ.out HB.out
end Go.Proofs.YtganfiajhokkmaaDoor

/- TrvA -/
namespace Go.Proofs.YtganfiajhokkmaaDoor
open Go.RowKit Go.Deep
set_option maxRecDepth 100000

/-- What adding to a list in the box g leaves. -/
structure KQ (g : Nat) (v : Value) (w : World) (v' : Value) (w' : World) : Prop where
  os : w'.os = w.os
  tape : w'.tape = w.tape
  output : w'.output = w.output
  size : w.heap.size ≤ w'.heap.size
  block : ∀ b, b < w.heap.size → b ≠ g → v.ownBlock ≠ some b → w'.heap[b]? = w.heap[b]?
  blk : ∀ c, v'.ownBlock = some c → v.ownBlock = some c ∨ w.heap.size ≤ c
theorem KQ.of_kp {g : Nat} {v v' : Value} {w w' : World} (h : Kp v w v' w') : KQ g v w v' w' := ⟨h.os, h.tape, h.output, h.size, fun b hb _ hn => h.block b hb hn, h.blk⟩
theorem KQ.of_below {g : Nat} {v : Value} {w w' : World} (h : Below w.heap.size w w') : KQ g v w v w' := .of_kp (.of_below h)
theorem KQ.trans {g : Nat} {v v' v'' : Value} {w w' w'' : World} (h : KQ g v w v' w') (k : KQ g v' w' v'' w'') : KQ g v w v'' w'' :=
  ⟨k.os.trans h.os, k.tape.trans h.tape, k.output.trans h.output, Nat.le_trans h.size k.size, fun b hb hg hn => (k.block b (Nat.lt_of_lt_of_le hb h.size) hg (fun e => by
    rcases h.blk b e with e' | e'
    · exact hn e'
    · omega)).trans (h.block b hb hg hn), fun c hc => by
    rcases k.blk c hc with e | e
    · exact h.blk c e
    · exact .inr (Nat.le_trans h.size e)⟩
theorem KQ.past {g : Nat} {v v' : Value} {w w' w'' : World} (h : KQ g v w v' w') (k : Past g w' w'') : KQ g v w v' w'' :=
  ⟨k.os.trans h.os, k.tape.trans h.tape, k.output.trans h.output, Nat.le_trans h.size k.size, fun b hb hg hn => (k.block b (Nat.lt_of_lt_of_le hb h.size) hg).trans (h.block b hb hg hn), h.blk⟩
theorem KQ.box {g : Nat} {v v' : Value} {w w' : World} {b : Nat} {L : List Value} (h : KQ g v w v' w') (hx : Box w b L) (hg : b ≠ g) (hn : v.ownBlock ≠ some b) : Box w' b L := ⟨Nat.lt_of_lt_of_le hx.1 h.size, fun c u hu => (World.cell?_of_block (w := w) (a := ⟨b, c, none⟩) (h.block b hx.1 hg hn)).trans (hx.2 c u hu)⟩
theorem KQ.low {g : Nat} {v v' : Value} {w w' : World} {B : Nat} (h : KQ g v w v' w') (hv : ∀ c, v.ownBlock = some c → B ≤ c) (hg : B ≤ g) (hB : B ≤ w.heap.size) : Below B w w' := ⟨h.os, h.tape, h.output, h.size, fun b hb => h.block b (by omega) (by omega) (fun e => by have := hv b e; omega)⟩
/-- A list of variables in the box g. -/
structure VQ (w0 w : World) (B g : Nat) (v : Value) (L : List SL) : Prop where
  cell : w.cell? ⟨g, 0, none⟩ = some v
  fr : w.frozen? ⟨g, 0, none⟩ = false
  lt : g < w.heap.size
  vl : VL w0 w B v L
  ne : v.ownBlock ≠ some g
  lo : w0.heap.size ≤ B
  gl : w0.heap.size ≤ g
  bl : Below w0.heap.size w0 w
  sz : B ≤ w.heap.size
theorem VQ.below {w0 w w' : World} {B g : Nat} {v : Value} {L : List SL} (h : VQ w0 w B g v L) (hb : Below w.heap.size w w') : VQ w0 w' B g v L :=
  ⟨(hb.cell (p := ⟨g, 0, none⟩) h.lt).trans h.cell, (hb.frozen (p := ⟨g, 0, none⟩) h.lt).trans h.fr, Nat.lt_of_lt_of_le h.lt hb.size, h.vl.below hb, h.ne, h.lo, h.gl, h.bl.trans (hb.mono h.bl.size), Nat.le_trans h.sz hb.size⟩
/-- What adding to a list in the box g does. -/
def AddQ (w0 : World) (B g : Nat) (v : Value) (R : List (List Int)) (w : World) (e : Ending) (w' : World) : Prop := ∃ v' L', e = .returned (.tuple #[]) ∧ VQ w0 w' B g v' L' ∧ L'.map SL.b = R ∧ KQ g v w v' w'
theorem appQ {ops : Array Oper} {rest : List Oper} {o : Oper} {a : Act} {Q : Exit → Act → World → Prop} {w : World} (hgd : o.guard = none) (s x : Operand)
    (ho : o.op = .call { callee := .builtin .append, args := #[s, x], argTypes := #[50, 50] })
    (w0 : World) (B : Nat) (v : Value) (L : List SL) (hs : a.eval s = v) (HO : Hid (VL w0 w B v L)) (y : SL) (hy : BsF 0 w0 y)
    (ad : Addr) (c : Nat) (hx : a.eval x = .slice (some ad) 1 c) (HN : Hid (∀ j u, ([y.v] : List Value)[j]? = some u → w.cell? (ad.add j) = some u)) (hle : L.length ≤ 1048576) (hB : B ≤ w.heap.size)
    (h : ∀ g cap w', Hid (VL w0 w' B (.slice (some ⟨g, 0, none⟩) (L.length + 1) cap) (L ++ [y])) → Hid (Kp v w (.slice (some ⟨g, 0, none⟩) (L.length + 1) cap) w') → wpList Tryd.prog ops Q rest (a.put o.dst (.slice (some ⟨g, 0, none⟩) (L.length + 1) cap)) w') :
    wpList Tryd.prog ops Q (o :: rest) a w := by
  obtain ⟨i0, hi0, hzz⟩ := Option.map_eq_some_iff.1 Tryd.infoB22
  simp only [Prod.mk.injEq] at hzz
  obtain ⟨hi2, hi1, hi3⟩ := hzz
  refine wpList_append_lies _ hgd s x 50 ho B 22 i0 (.slice none 0 0) 1 24 Tryd.underlying50 hi0 hi2 hi1 hi3 rfl (by omega) v L.length (L.map SL.v) hs HO.out.own ad 1 c [y.v] hx rfl HN.out (fun u hu => by simp only [List.mem_cons, List.not_mem_nil, or_false] at hu; rw [hu]; rfl) (by omega) (by unfold maxLen; omega) (by omega) hB _ rfl ?_
  intro g cap w' hown hgr hat hlt
  refine h g cap w' ⟨?_, fun g' hg' => ?_, fun z hz => ?_⟩ ⟨hgr.os, hgr.tape, hgr.output, hgr.size, fun b hb hn => hgr.block b hb (fun e => hn e.symm), fun g' hg' => ?_⟩
  · rw [List.map_append, List.length_append]
    exact hown
  · have : g = g' := by simpa [Value.ownBlock] using hg'
    subst this
    rcases hown.2 with ⟨hv, _⟩ | ⟨g0, c0, cur, hv, hb, _⟩
    · cases hv
    · cases hv; exact ⟨hb, hlt⟩
  · rcases List.mem_append.1 hz with hz | hz
    · exact HO.out.txt z hz
    · rw [List.mem_singleton.1 hz]
      exact hy
  · have : g = g' := by simpa [Value.ownBlock] using hg'
    subst this
    rcases hat with e | e
    · exact .inl e
    · exact .inr (by rw [e]; exact Nat.le_refl _)
/-- The new list is laid into the box. -/
theorem VQ.put {w0 w w9 : World} {B g : Nat} {v v9 : Value} {L L9 : List SL} (h : VQ w0 w B g v L) (hK : Kp v w v9 w9) (hV : VL w0 w9 B v9 L9) : VQ w0 (w9.setCell ⟨g, 0, none⟩ v9) B g v9 L9 ∧ KQ g v w v9 (w9.setCell ⟨g, 0, none⟩ v9) := by
  have hb := hK.block g h.lt h.ne
  have hc : w9.cell? ⟨g, 0, none⟩ = some v := (World.cell?_of_block (w := w) (a := ⟨g, 0, none⟩) hb).trans h.cell
  have hne : v9.ownBlock ≠ some g := fun e => by
    rcases hK.blk g e with e | e
    · exact h.ne e
    · have := h.lt
      omega
  have hp : Past g w9 (w9.setCell ⟨g, 0, none⟩ v9) := (Past.refl g w9).set 0 _
  have hq : KQ g v w v9 (w9.setCell ⟨g, 0, none⟩ v9) := (KQ.of_kp hK).past hp
  refine ⟨⟨set_same hc, ?_, Nat.lt_of_lt_of_le h.lt hq.size, hV.keep hp.size (fun c hc' => hp.block c (hV.lo c hc').2 (fun e => hne (by rw [← e]; exact hc'))), hne, h.lo, h.gl, ?_, Nat.le_trans h.sz hq.size⟩, hq⟩
  · rw [World.frozen?_setCell]
    exact (World.frozen?_of_block (w := w) (a := ⟨g, 0, none⟩) hb).trans h.fr
  · exact h.bl.trans (hq.low (fun c hc' => Nat.le_trans h.lo (h.vl.lo c hc').1) h.gl h.bl.size)
set_option maxHeartbeats 2000000 in
theorem add_any (v : Value) (L : List SL) (x : SL) (B g : Nat) (w0 w : World) (h : VQ w0 w B g v L) (hx : BsF 0 w0 x) (hn : L.length ≤ 1000000) :
    Calls Tryd.prog 19 #[.pointer (some ⟨g, 0, none⟩), .slice x.a x.len x.cap] w (AddQ w0 B g v (addV (L.map SL.b) x.b) w) := by
  have HLX : Hid (x.b = [] ↔ x.len = 0) := nil_len hx.1.1
  have HV : Hid (VQ w0 w B g v L) := h
  have HX : Hid (BsF 0 w0 x) := hx
  have HAS := has_any v L x B w0 w h.vl h.bl hx (by omega)
  obtain ⟨a, cap, rfl, _⟩ := h.vl.form
  obtain ⟨n, hnn⟩ : ∃ n, n = L.length := ⟨_, rfl⟩
  have HN : Hid (n = L.length) := hnn
  rw [← hnn] at HAS HV ⊢
  clear h hx hnn
  by_cases h0 : x.len = 0
  · have HR : Hid (addV (L.map SL.b) x.b = L.map SL.b) := (show addV _ _ = _ by unfold addV; rw [if_pos (.inl (HLX.out.2 h0))])
    clear HAS
    go_enter Tryd.func19, Tryd.ntmps19
    go_wp2_with fail
    go_end0
    exact ⟨_, L, rfl, HV.out, HR.out.symm, KQ.of_below (Below.refl _ _)⟩
  have h0b : (0 : Int) < (x.len : Int) := by omega
  have h0c : 0 < x.len := by omega
  have H0 : Hid (¬ x.b = []) := fun e => h0 (HLX.out.1 e)
  have c0 := HV.out.cell
  clear h0
  go_enter Tryd.func19, Tryd.ntmps19
  go_wp2_with fail
  refine HAS.mono ?_
  rintro e w1 ⟨q, rfl, hq, hb1⟩
  have HB1 : Hid (Below w.heap.size w w1) := hb1
  clear HAS hb1 c0
  cases q with
  | true =>
    have HR : Hid (addV (L.map SL.b) x.b = L.map SL.b) := (show addV _ _ = _ by unfold addV; rw [if_pos (.inr (hq.1 rfl))])
    clear hq
    go_wp2_with fail
    go_end0
    exact ⟨_, L, rfl, HV.out.below HB1.out, HR.out.symm, KQ.of_below HB1.out⟩
  | false =>
    have HR : Hid (addV (L.map SL.b) x.b = (L ++ [x]).map SL.b) := (show addV _ _ = _ by
      unfold addV
      rw [if_neg (fun hh => by
        rcases hh with hh | hh
        · exact H0.out hh
        · have := hq.2 hh
          cases this), List.map_append]
      rfl)
    clear hq
    have HV1 : Hid (VQ w0 w1 B g (.slice a n cap) L) := HV.out.below HB1.out
    have HV2 : Hid (∀ o, VQ w0 (w1.alloc o) B g (.slice a n cap) L) := fun o => HV1.out.below (bl_a o)
    have HO1 : Hid (∀ o, VL w0 (w1.alloc o) B (.slice a n cap) L) := fun o => (HV2.out o).vl
    have c1 := HV1.out.cell
    have HCL : Hid (∀ o v' w9, Kp (.slice a n cap) (w1.alloc o) v' w9 → w9.cell? ⟨g, 0, none⟩ = some (.slice a n cap) ∧ w9.frozen? ⟨g, 0, none⟩ = false) := fun o v' w9 hK => ⟨(World.cell?_of_block (w := w1.alloc o) (a := ⟨g, 0, none⟩) (hK.block g (HV2.out o).lt (HV2.out o).ne)).trans (HV2.out o).cell, (World.frozen?_of_block (w := w1.alloc o) (a := ⟨g, 0, none⟩) (hK.block g (HV2.out o).lt (HV2.out o).ne)).trans (HV2.out o).fr⟩
    have HNW : Hid (∀ j u, ([x.v] : List Value)[j]? = some u → (w1.alloc (.cells #[.slice x.a x.len x.cap] 22)).cell? ((⟨w1.heap.size, 0, none⟩ : Addr).add j) = some u) := by
      intro j u hu
      have h1 : (w1.alloc (.cells #[.slice x.a x.len x.cap] 22)).heap[w1.heap.size]? = some (.cells #[.slice x.a x.len x.cap] 22) := by
        show (w1.heap.push _)[w1.heap.size]? = _
        rw [Array.getElem?_push]
        simp
      exact World.news_of_block h1 j u hu
    have hle1 : L.length ≤ 1048576 := by have := HN.out; omega
    have hB1 : ∀ o, B ≤ (w1.alloc o).heap.size := fun o => (HV2.out o).sz
    go_wp2_with (refine appQ rfl (.tmp 18) (.tmp 20) rfl w0 B (.slice a n cap) L rfl (HO1.out _) x HX.out ⟨w1.heap.size, 0, none⟩ 1 rfl HNW hle1 (hB1 _) ?_; intro g9 k9 w9 HO9 HK9; obtain ⟨cc9, ff9⟩ := HCL.out _ _ _ HK9.out)
    go_end0
    obtain ⟨r1, r2⟩ := (HV2.out _).put HK9.out HO9.out
    exact ⟨_, _, rfl, r1, HR.out.symm, (KQ.of_below (bl_trans HB1.out (bl_a _))).trans r2⟩
end Go.Proofs.YtganfiajhokkmaaDoor

/- OpnC -/
namespace Go.Proofs.YtganfiajhokkmaaDoor
open Go.ChangeShapes Go.WideShapes Go.ChangeAt Go.RowKit Go.Joins

set_option maxRecDepth 100000 in
theorem open_code {H : Type} {enc : TypeId × Value → H} {W : World} {b0 : Nat} {v : Value} {d : DataW H} {p : List MemPlace}
    (hv : Value.okWide Tryd.prog W .any b0 22 v) (h : DataW.Trod enc Tryd.prog W 0 (fun _ => true) true 22 v d p) :
    ∃ (a : Option Addr) (len cap : Nat), v = .slice a len cap ∧ len ≤ 9223372036854775807 ∧ Code W a len := by
  obtain ⟨a1, len, cap, rfl⟩ := okWide_slice Tryd.underlying22 hv
  obtain ⟨fuel, hf⟩ := h
  refine ⟨a1, len, cap, rfl, ?_⟩
  rcases open_ints Tryd.underlying22 Tryd.underlying5 Tryd.cells5 hf with ⟨hcs, _⟩ | ⟨x, l, c, zs, hcs, _, hl, hm, hz, _, hcell, hwz⟩
  · simp [Value.cells] at hcs
    obtain ⟨rfl, rfl, rfl⟩ := hcs
    exact ⟨by omega, .inl rfl⟩
  · simp [Value.cells] at hcs
    obtain ⟨rfl, rfl, rfl⟩ := hcs
    simp only [if_true] at hz
    refine ⟨by unfold maxLen at hm; omega, ?_⟩
    by_cases h0 : len = 0
    · exact .inl h0
    right
    obtain ⟨b, off, spot⟩ := x
    have hc0 := hcell 0 (by omega)
    have hspot : spot = none := by simpa [Addr.add] using World.cell?_spot hc0
    subst hspot
    refine ⟨b, off, rfl, by simpa [Addr.add] using cell_lt hc0, fun i hi => ?_⟩
    have h := hcell i (by omega)
    have ea : (⟨b, off, none⟩ : Addr).add i = ⟨b, off + i, none⟩ := by
      by_cases h0 : i = 0 <;> simp [Addr.add, h0]
    rw [ea] at h
    have hil : i < zs.length := by omega
    have hb := bounds_u8 (hwz _ (List.getElem_mem hil))
    refine ⟨zs[i], ?_, hb.1, hb.2⟩
    rw [h, List.getD_eq_getElem?_getD, List.getElem?_eq_getElem hil]
    rfl
end Go.Proofs.YtganfiajhokkmaaDoor

/- ShwI -/
namespace Go.Proofs.YtganfiajhokkmaaDoor
open Go.RowKit Go.Deep
set_option maxRecDepth 100000

/-- The library's table of powers of ten lies as it is written. -/
def Tab (w : World) : Prop := Lib.TabIs Tryd.prog w "internal/strconv.uint64pow10" .u64 Lib.pow10Tab
theorem tab_lt {w : World} (h : Tab w) : ∃ g, Tryd.prog.globalNamed "internal/strconv.uint64pow10" = some g ∧ g < w.heap.size := by
  unfold Tab Lib.TabIs World.var? at h
  cases hg : Tryd.prog.globalNamed "internal/strconv.uint64pow10" with
  | none => rw [hg] at h; cases h
  | some g =>
    refine ⟨g, rfl, ?_⟩
    apply Classical.byContradiction
    intro hn
    rw [hg] at h
    simp only [Option.bind_some] at h
    rw [Array.getElem?_eq_none (by omega)] at h
    cases h
theorem Tab.below {w w' : World} (h : Tab w) (hb : Below w.heap.size w w') : Tab w' := by
  obtain ⟨g, hg, hlt⟩ := tab_lt h
  exact var?_below hb hg hlt h

theorem below_grow (w : World) (k : Nat) (os : Array Obj) : Below w.heap.size w (Go.Sort.grow (w.drewN k) os) := by
  have h0 : Below w.heap.size w (w.drewN k) := below_drewN (Below.refl _ _) k
  refine ⟨h0.os, h0.tape, h0.output, ?_, fun b hb => ?_⟩
  · simp
  · rw [Go.Sort.heap_grow_old _ _ (by simpa using hb)]
    exact h0.block b hb

theorem decDigits_nums (n : Nat) : (Lib.decDigits n).map (fun b => (b.toNat : Int)) = digitsL n := by
  induction n using Nat.strongRecOn with
  | ind n ih =>
    rw [Lib.decDigits]
    split
    · rename_i h
      rw [digitsL_small h]
      simp
      omega
    · rename_i h
      rw [digitsL_step h, List.map_append, ih (n / 10) (by omega)]
      simp
      omega

/-- What a text is told as. -/
def StrRes (w : World) (bs : List Int) (e : Ending) (w' : World) : Prop := ∃ s, e = .returned (.string s) ∧ numsOf s = bs ∧ Below w.heap.size w w'
theorem itoa_any (n : Int) (w : World) (h0 : 0 ≤ n) (h1 : n ≤ 9223372036854775807) (ht : Tab w) :
    Calls Tryd.prog 39 #[.int .i64 n] w fun e w' => StrRes w (digitsL n.toNat) e w' := by
  refine (Tryd.strconv_Itoa n (by omega) h1 w ht).mono ?_
  rintro e w' ⟨rfl, k, os, rfl⟩
  refine ⟨_, rfl, ?_, below_grow _ _ _⟩
  have hn : ¬ n < 0 := by omega
  simp only [numsOf, Lib.itoa, hn, if_false]
  exact decDigits_nums n.toNat

theorem repeatL_nums (c : Nat) : (Lib.repeatL [48] c).map (fun b : UInt8 => (b.toNat : Int)) = List.replicate c 48 := by
  induction c with
  | zero => rfl
  | succ c ih =>
    rw [Lib.repeatL, List.map_append, ih, List.replicate_succ]
    rfl
theorem repeat0_any (c : Nat) (w : World) (h : c ≤ 1000) :
    Calls Tryd.prog 55 #[.string ⟨#[48]⟩, .int .i64 c] w fun e w' => StrRes w (List.replicate c 48) e w' := by
  refine (Tryd.strings_Repeat ⟨#[48]⟩ c w (by omega) (by show 1 * c ≤ _; omega)).mono ?_
  rintro e w' ⟨rfl, hb⟩
  exact ⟨_, rfl, by simp only [numsOf]; exact repeatL_nums c, hb⟩

theorem size_pos (n : Int) (w : World) (h : 0 ≤ n) : Calls Tryd.prog 54 #[.int .i64 n] w fun e w' => e = .returned (.int .i64 n) ∧ w' = w := by
  go_enter Tryd.func54, Tryd.ntmps54
  go_wp2
  go_ret
  exact ⟨rfl, rfl⟩
theorem size_neg (n : Int) (w : World) (h : 0 < n) (h1 : n ≤ 9223372036854775807) : Calls Tryd.prog 54 #[.int .i64 (-n)] w fun e w' => e = .returned (.int .i64 n) ∧ w' = w := by
  go_enter Tryd.func54, Tryd.ntmps54
  go_wp2
  go_ret
  exact ⟨rfl, rfl⟩

/-- A box of two. -/
def At2 (w : World) (b : Nat) (v0 v1 : Value) : Prop := b < w.heap.size ∧ w.cell? ⟨b, 0, none⟩ = some v0 ∧ w.cell? ⟨b, 1, none⟩ = some v1
theorem At2.below {w w' : World} {b : Nat} {v0 v1 : Value} (h : At2 w b v0 v1) (hb : Below w.heap.size w w') : At2 w' b v0 v1 := by
  obtain ⟨hl, h0, h1⟩ := h
  exact ⟨Nat.lt_of_lt_of_le hl hb.size, (hb.cell (p := ⟨b, 0, none⟩) hl).trans h0, (hb.cell (p := ⟨b, 1, none⟩) hl).trans h1⟩
theorem At2.new (w : World) (v0 v1 : Value) (t : TypeId) : At2 (w.alloc (.cells #[v0, v1] t)) w.heap.size v0 v1 := by
  refine ⟨by simp, by simp [go_sem], by simp [go_sem]⟩

theorem p10_nat (s : Nat) : p10 s = ((10 ^ s : Nat) : Int) := by
  induction s with
  | zero => rfl
  | succ s ih =>
    rw [Nat.pow_succ]
    simp only [p10, ih]
    omega
theorem numsOf_nil : numsOf ⟨#[]⟩ = [] := rfl

set_option maxHeartbeats 1000000 in
theorem text_pos (n : Int) (s : Nat) (w : World) (hs : s ≤ 6) (hn : 0 ≤ n) (hn' : n ≤ 1000000000000000) (ht : Tab w) :
    Calls Tryd.prog 42 #[.agg #[.int .i64 n, .int .i64 s]] w fun e w' => StrRes w (numL n s) e w' := by
  have P := fun w => tenTo_any s w hs
  have hp := p10_pos s
  have hp6 := p10_le hs
  have d0 : 0 ≤ n / p10 s := Int.ediv_nonneg hn (by omega)
  have d1 : n / p10 s ≤ n := Int.ediv_le_self _ hn
  have m0 : 0 ≤ n % p10 s := Int.emod_nonneg _ (by omega)
  have m1 : n % p10 s < p10 s := Int.emod_lt_of_pos _ (by omega)
  have I1 := fun w ht => itoa_any (n / p10 s) w d0 (by omega) ht
  have I2 := fun w ht => itoa_any (n % p10 s) w m0 (by omega) ht
  have hL1 := digitsL_len 16 (n / p10 s).toNat (by omega)
  have hL2 : s ≠ 0 → (digitsL (n % p10 s).toNat).length ≤ s := fun h0 => by
    have := digitsL_len (s - 1) (n % p10 s).toNat (by have := p10_nat s; rw [show s - 1 + 1 = s by omega]; omega)
    omega
  have HA := At2.new w (.int .i64 n) (.int .i64 s) 74
  have HT : Hid (Tab (w.alloc (.cells #[.int .i64 n, .int .i64 s] 74))) := ht.below (bl_a _)
  have SZ := fun w => size_pos n w hn
  unfold numL
  generalize digitsL (n / p10 s).toNat = d at *
  generalize digitsL (n % p10 s).toNat = f at *
  go_enter Tryd.func42, Tryd.ntmps42
  go_wp2_with fail
  refine (P _).mono ?_
  rintro e w1 ⟨rfl, rfl⟩
  go_wp2_with fail
  refine (SZ _).mono ?_
  rintro e w1 ⟨rfl, rfl⟩
  go_wp2_with fail
  refine (I1 _ HT.out).mono ?_
  rintro e w2 ⟨s1, rfl, hs1, hb1⟩
  obtain ⟨ha0, ha1, ha2⟩ := HA.below hb1
  have HB2 : Hid (Below w.heap.size w w2) := bl_trans (bl_a _) hb1
  have HT2 : Hid (Tab w2) := HT.out.below hb1
  have HS1 : Hid (numsOf s1 = d) := hs1
  have hz1 : s1.size ≤ 17 := by rw [← numsOf_len, hs1]; omega
  clear hb1 hs1 HT HA I1 P
  by_cases hs0 : s = 0
  · go_wp2_with fail
    go_ret
    refine ⟨_, rfl, ?_, HB2.out⟩
    simp [HS1.out, numsOf_append, numsOf_nil]
  · go_wp2_with fail
    refine (SZ _).mono ?_
    rintro e w3 ⟨rfl, rfl⟩
    go_wp2_with fail
    refine (I2 _ HT2.out).mono ?_
    rintro e w4 ⟨s2, rfl, hs2, hb4⟩
    have ha4 := (hb4.cell (p := ⟨w.heap.size, 1, none⟩) ha0).trans ha2
    have HB4 : Hid (Below w.heap.size w w4) := bl_trans HB2.out hb4
    have hz : s2.size = f.length := by rw [← numsOf_len, hs2]
    have HS2 : Hid (numsOf s2 = f) := hs2
    clear hb4 hs2 I2 HT2 SZ
    have hf := hL2 hs0
    have R : ∀ c : Int, c = ((s - f.length : Nat) : Int) → ∀ w, Calls Tryd.prog 55 #[.string ⟨#[48]⟩, .int .i64 c] w fun e w' => StrRes w (List.replicate (s - f.length) 48) e w' := fun c hc w => by
      rw [hc]
      exact repeat0_any (s - f.length) w (by omega)
    go_wp2_with fail
    refine (R _ (by omega) _).mono ?_
    rintro e w5 ⟨s3, rfl, hs3, hb5⟩
    have hz3 : s3.size ≤ 6 := by rw [← numsOf_len, hs3]; simp; omega
    have HB5 : Hid (Below w.heap.size w w5) := bl_trans HB4.out hb5
    have HS3 : Hid (numsOf s3 = List.replicate (s - f.length) 48) := hs3
    clear hb5 hs3 R
    go_wp2_with fail
    go_ret
    refine ⟨_, rfl, ?_, HB5.out⟩
    simp only [numsOf_append, numsOf_nil, HS1.out, HS2.out, HS3.out]
    simp [numsOf]
set_option maxHeartbeats 1000000 in
theorem text_neg (n : Int) (s : Nat) (w : World) (hs : s ≤ 6) (hn1 : 0 < n) (hn' : n ≤ 1000000000000000) (ht : Tab w) :
    Calls Tryd.prog 42 #[.agg #[.int .i64 (-n), .int .i64 s]] w fun e w' => StrRes w (45 :: numL n s) e w' := by
  have hn : 0 ≤ n := by omega
  have P := fun w => tenTo_any s w hs
  have hp := p10_pos s
  have hp6 := p10_le hs
  have d0 : 0 ≤ n / p10 s := Int.ediv_nonneg hn (by omega)
  have d1 : n / p10 s ≤ n := Int.ediv_le_self _ hn
  have m0 : 0 ≤ n % p10 s := Int.emod_nonneg _ (by omega)
  have m1 : n % p10 s < p10 s := Int.emod_lt_of_pos _ (by omega)
  have I1 := fun w ht => itoa_any (n / p10 s) w d0 (by omega) ht
  have I2 := fun w ht => itoa_any (n % p10 s) w m0 (by omega) ht
  have hL1 := digitsL_len 16 (n / p10 s).toNat (by omega)
  have hL2 : s ≠ 0 → (digitsL (n % p10 s).toNat).length ≤ s := fun h0 => by
    have := digitsL_len (s - 1) (n % p10 s).toNat (by have := p10_nat s; rw [show s - 1 + 1 = s by omega]; omega)
    omega
  have HA := At2.new w (.int .i64 (-n)) (.int .i64 s) 74
  have HT : Hid (Tab (w.alloc (.cells #[.int .i64 (-n), .int .i64 s] 74))) := ht.below (bl_a _)
  have SZ := fun w => size_neg n w hn1 (by omega)
  unfold numL
  generalize digitsL (n / p10 s).toNat = d at *
  generalize digitsL (n % p10 s).toNat = f at *
  go_enter Tryd.func42, Tryd.ntmps42
  go_wp2_with fail
  refine (P _).mono ?_
  rintro e w1 ⟨rfl, rfl⟩
  go_wp2_with fail
  refine (SZ _).mono ?_
  rintro e w1 ⟨rfl, rfl⟩
  go_wp2_with fail
  refine (I1 _ HT.out).mono ?_
  rintro e w2 ⟨s1, rfl, hs1, hb1⟩
  obtain ⟨ha0, ha1, ha2⟩ := HA.below hb1
  have HB2 : Hid (Below w.heap.size w w2) := bl_trans (bl_a _) hb1
  have HT2 : Hid (Tab w2) := HT.out.below hb1
  have HS1 : Hid (numsOf s1 = d) := hs1
  have hz1 : s1.size ≤ 17 := by rw [← numsOf_len, hs1]; omega
  clear hb1 hs1 HT HA I1 P
  by_cases hs0 : s = 0
  · go_wp2_with fail
    go_ret
    refine ⟨_, rfl, ?_, HB2.out⟩
    simp [HS1.out, numsOf_append]
    rfl
  · go_wp2_with fail
    refine (SZ _).mono ?_
    rintro e w3 ⟨rfl, rfl⟩
    go_wp2_with fail
    refine (I2 _ HT2.out).mono ?_
    rintro e w4 ⟨s2, rfl, hs2, hb4⟩
    have ha4 := (hb4.cell (p := ⟨w.heap.size, 1, none⟩) ha0).trans ha2
    have HB4 : Hid (Below w.heap.size w w4) := bl_trans HB2.out hb4
    have hz : s2.size = f.length := by rw [← numsOf_len, hs2]
    have HS2 : Hid (numsOf s2 = f) := hs2
    clear hb4 hs2 I2 HT2 SZ
    have hf := hL2 hs0
    have R : ∀ c : Int, c = ((s - f.length : Nat) : Int) → ∀ w, Calls Tryd.prog 55 #[.string ⟨#[48]⟩, .int .i64 c] w fun e w' => StrRes w (List.replicate (s - f.length) 48) e w' := fun c hc w => by
      rw [hc]
      exact repeat0_any (s - f.length) w (by omega)
    go_wp2_with fail
    refine (R _ (by omega) _).mono ?_
    rintro e w5 ⟨s3, rfl, hs3, hb5⟩
    have hz3 : s3.size ≤ 6 := by rw [← numsOf_len, hs3]; simp; omega
    have HB5 : Hid (Below w.heap.size w w5) := bl_trans HB4.out hb5
    have HS3 : Hid (numsOf s3 = List.replicate (s - f.length) 48) := hs3
    clear hb5 hs3 R
    go_wp2_with fail
    go_ret
    refine ⟨_, rfl, ?_, HB5.out⟩
    simp only [numsOf_append, HS1.out, HS2.out, HS3.out]
    simp [numsOf]
end Go.Proofs.YtganfiajhokkmaaDoor

/- ShwJ -/
namespace Go.Proofs.YtganfiajhokkmaaDoor
open Go.RowKit Go.Deep
set_option maxRecDepth 100000

theorem conv_res {w w1 : World} (S : ByteArray) (N : Nat) {bs : List Int} (hb : Below w.heap.size w w1) (hN : S.size = N) (hn : numsOf S = bs) (hl : bs.length ≤ 1048576) :
    TxRes w bs (.returned (.slice (some ⟨w1.heap.size, 0, none⟩) N (grownCap w1 N 0 5))) (Lib.bytesWorld w1 5 S) := by
  have hs : S.size = bs.length := by rw [← hn, numsOf_len]
  have := Tx.conv w1 S 5 (by omega)
  rw [hn, hs] at this
  rw [← hN, hs]
  exact ⟨_, _, rfl, this.nw.mono hb.size, bl_trans hb (bytesWorld_below _ _ _)⟩

theorem size_name (st : ByteArray) : (({ data := #[60] } : ByteArray) ++ st ++ { data := #[62] }).size = 1 + st.size + 1 := by
  rw [ByteArray.size_append, ByteArray.size_append]
  rfl
theorem size_blank (st : ByteArray) : (({ data := #[95, 58] } : ByteArray) ++ st).size = 2 + st.size := by
  rw [ByteArray.size_append]
  rfl
theorem text_any (n s : Int) (w : World) (h : numOk n s = true) (ht : Tab w) :
    Calls Tryd.prog 42 #[.agg #[.int .i64 n, .int .i64 s]] w fun e w' => StrRes w (showL 3 n s []) e w' := by
  have hb := numOk_bounds h
  obtain ⟨t, rfl⟩ : ∃ t : Nat, s = t := ⟨s.toNat, by omega⟩
  by_cases hn : n < 0
  · obtain ⟨m, rfl⟩ : ∃ m, n = -m := ⟨-n, by omega⟩
    have := text_neg m t w (by omega) (by omega) (by omega) ht
    have e : showL 3 (-m) t [] = 45 :: numL m t := by simp [showL]; omega
    rw [e]
    exact this
  · have := text_pos n t w (by omega) (by omega) (by omega) ht
    have e : showL 3 n t [] = numL n t := by simp [showL, hn]
    rw [e]
    exact this

set_option maxHeartbeats 1000000 in
theorem implShow_any (k n s : Int) (a : Option Addr) (len cap : Nat) (bs : List Int) (w : World) (hB : Bs w a len bs) (h1 : -9223372036854775808 ≤ n) (h2 : n ≤ 9223372036854775807) (h3 : -9223372036854775808 ≤ s) (h4 : s ≤ 9223372036854775807) (ht : Tab w) :
    Calls Tryd.prog 23 #[.agg #[.int .i64 k, .slice a len cap, .int .i64 n, .int .i64 s]] w fun e w' => TxRes w (shownL k n s bs) e w' := by
  have T := fun o => implTermOk_any k n s a len cap bs (w.alloc o) (hB.below (bl_a o)) h1 h2 h3 h4
  have hcv := fun (w : World) (s : ByteArray) => Lib.run_convert_string_bytes (P := Tryd.prog) w 9 22 5 s Tryd.underlying9 Tryd.underlying22 Tryd.underlying5
  have HA := At4.new w (.int .i64 k) (.slice a len cap) (.int .i64 n) (.int .i64 s) 39
  have HT : Hid (Tab (w.alloc (.cells #[.int .i64 k, .slice a len cap, .int .i64 n, .int .i64 s] 39))) := ht.below (bl_a _)
  have HBs : Hid (Bs (w.alloc (.cells #[.int .i64 k, .slice a len cap, .int .i64 n, .int .i64 s] 39)) a len bs) := hB.below (bl_a _)
  have HY : Hid (Byt bs) := hB.byt
  have HL : Hid (bs.length = len) := hB.1
  cases hok : termOk k bs n s
  · have e : shownL k n s bs = [] := by simp [shownL, hok]
    rw [e]
    rw [hok] at T
    clear hB hcv HA HT HBs
    go_enter Tryd.func23, Tryd.ntmps23
    go_wp2_with fail
    refine (T _).mono ?_
    rintro e w1 ⟨rfl, hb1⟩
    have HB1 : Hid (Below w.heap.size w w1) := bl_trans (bl_a _) hb1
    clear hb1 T
    go_wp2_with fail
    go_ret
    exact ⟨none, 0, rfl, Nw.nil _ _, HB1.out⟩
  · have e : shownL k n s bs = showL k n s bs := by simp [shownL, hok]
    rw [e]
    have hln := showL_len hok
    have HYY : Hid (Byt (showL k n s bs)) := showL_byt HY.out
    rw [hok] at T
    have HOK := hok
    unfold termOk at hok
    clear hB ht
    split at hok
    · rename_i hk
      subst hk
      have HE : Hid (showL 0 n s bs = 60 :: (bs ++ [62])) := by show _ = _; simp [showL]
      have hz : (strOfNums bs).size ≤ 12 := by rw [strOfNums_size]; simp [nameOk] at hok; omega
      have HN : Hid (numsOf (strOfNums bs) = bs) := numsOf_nums HY.out
      generalize showL 0 n s bs = L at *
      clear hok HOK HT
      go_enter Tryd.func23, Tryd.ntmps23
      go_wp2_with fail
      refine (T _).mono ?_
      rintro e w1 ⟨rfl, hb1⟩
      obtain ⟨a0, a1, a2, a3, a4⟩ := HA.below hb1
      have hv := (HBs.out.below hb1).str (cap := cap)
      have HB1 : Hid (Below w.heap.size w w1) := bl_trans (bl_a _) hb1
      clear hb1 T HA HBs
      generalize strOfNums bs = st at *
      go_wp2_with fail
      go_ret
      refine conv_res ({ data := #[60] } ++ st ++ { data := #[62] }) (1 + st.size + 1) (bs := L) HB1.out (size_name st) ?_ (by omega)
      rw [HE.out]
      simp only [numsOf_append, HN.out]
      simp [numsOf]
    split at hok
    · rename_i k0 hk
      subst hk
      have HE : Hid (showL 1 n s bs = 95 :: 58 :: digitsL n.toNat) := by show _ = _; simp [showL]
      have hn : 0 ≤ n := by simp at hok; omega
      have I := fun w ht => itoa_any n w hn h2 ht
      have hL := digitsL_len 18 n.toNat (by omega)
      generalize showL 1 n s bs = L at *
      generalize digitsL n.toNat = d at *
      clear hok HOK
      go_enter Tryd.func23, Tryd.ntmps23
      go_wp2_with fail
      refine (T _).mono ?_
      rintro e w1 ⟨rfl, hb1⟩
      obtain ⟨a0, a1, a2, a3, a4⟩ := HA.below hb1
      have HB1 : Hid (Below w.heap.size w w1) := bl_trans (bl_a _) hb1
      have HT1 : Hid (Tab w1) := HT.out.below hb1
      clear hb1 T HA HBs HT
      go_wp2_with fail
      refine (I _ HT1.out).mono ?_
      rintro e w2 ⟨st, rfl, hst, hb2⟩
      have HB2 : Hid (Below w.heap.size w w2) := bl_trans HB1.out hb2
      have HN : Hid (numsOf st = d) := hst
      have hz : st.size ≤ 19 := by rw [← numsOf_len, hst]; omega
      clear hb2 hst I HT1 HB1
      go_wp2_with fail
      go_ret
      refine conv_res ({ data := #[95, 58] } ++ st) (2 + st.size) (bs := L) HB2.out (size_blank st) ?_ (by omega)
      rw [HE.out]
      simp only [numsOf_append, HN.out]
      simp [numsOf]
    split at hok
    · rename_i k0 k1 hk
      subst hk
      have HE : Hid (showL 2 n s bs = 34 :: (esc bs ++ [34])) := by show _ = _; simp [showL]
      have Q := fun w hB => quoted_any a len cap bs w hB
      generalize showL 2 n s bs = L at *
      generalize (34 :: (esc bs ++ [34])) = L2 at *
      obtain rfl : L = L2 := HE.out
      clear hok HOK HT HE
      go_enter Tryd.func23, Tryd.ntmps23
      go_wp2_with fail
      refine (T _).mono ?_
      rintro e w1 ⟨rfl, hb1⟩
      obtain ⟨a0, a1, a2, a3, a4⟩ := HA.below hb1
      have HB1 : Hid (Below w.heap.size w w1) := bl_trans (bl_a _) hb1
      have HBs1 : Hid (Bs w1 a len bs) := HBs.out.below hb1
      clear hb1 T HA HBs
      go_wp2_with fail
      refine (Q _ HBs1.out).mono ?_
      intro e w2 hR
      have HR := (hR.later HB1.out).tx HYY.out (by omega)
      clear hR Q
      obtain ⟨x, cp, rfl, hr, hbl⟩ := HR
      have HR : Hid (Nw w2 w.heap.size x L.length L) := hr
      have HB : Hid (Below w.heap.size w w2) := hbl
      clear hr hbl
      go_wp2_with fail
      go_ret
      exact ⟨x, cp, rfl, HR.out, HB.out⟩
    split at hok
    · rename_i k0 k1 k2 hk
      subst hk
      have HE : Hid (showL 3 n s bs = showL 3 n s []) := by show _ = _; simp [showL]
      simp only [Bool.and_eq_true] at hok
      have X := fun w ht => text_any n s w hok.2 ht
      have D := fun w => decimal_any 3 n s a len cap w
      rw [HE.out] at hln HYY ⊢
      clear HE HOK hok
      generalize showL 3 n s [] = L at *
      go_enter Tryd.func23, Tryd.ntmps23
      go_wp2_with fail
      refine (T _).mono ?_
      rintro e w1 ⟨rfl, hb1⟩
      obtain ⟨a0, a1, a2, a3, a4⟩ := HA.below hb1
      have HB1 : Hid (Below w.heap.size w w1) := bl_trans (bl_a _) hb1
      have HT1 : Hid (Tab w1) := HT.out.below hb1
      clear hb1 T HA HBs HT
      go_wp2_with fail
      refine (D _).mono ?_
      rintro e w1' ⟨rfl, o1, o2, rfl⟩
      have HB1' : Hid (Below w.heap.size w ((w1.alloc o1).alloc o2)) := bl_alloc (bl_alloc HB1.out _) _
      have HT1' : Hid (Tab ((w1.alloc o1).alloc o2)) := HT1.out.below (bl_alloc (bl_a _) _)
      go_wp2_with fail
      refine (X _ HT1'.out).mono ?_
      rintro e w2 ⟨st, rfl, hst, hb2⟩
      have HB2 : Hid (Below w.heap.size w w2) := bl_trans HB1'.out hb2
      have HN : Hid (numsOf st = L) := hst
      have hz : st.size ≤ 64 := by rw [← numsOf_len, hst]; omega
      clear hb2 hst X HT1 HB1 HB1' HT1'
      go_wp2_with fail
      go_ret
      exact conv_res st st.size (bs := L) HB2.out rfl HN.out (by omega)
    · cases hok
end Go.Proofs.YtganfiajhokkmaaDoor
