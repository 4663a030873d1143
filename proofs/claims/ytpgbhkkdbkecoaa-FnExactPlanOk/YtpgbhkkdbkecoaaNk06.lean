/- Texts put together: TreC -/
import Derived.Test.YtpgbhkkdbkecoaaNk05
import Derived.Test.YtpgbhkkdbkecoaaNk02
import Derived.Test.YtpgbhkkdbkecoaaNk03
/- TreC -/
namespace Go.Proofs.Ytpgbhkkdbkecoaa
open Go.RowKit Go.Deep
set_option maxRecDepth 100000

theorem upper_set {w : World} {g i : Nat} (v : Value) : Upper (g + 1) w (w.setCell ⟨g, i, none⟩ v) := by
  have hb : But g w (w.setCell ⟨g, i, none⟩ v) := (But.refl g w).set i v
  exact ⟨by rw [hb.size]; exact Nat.le_refl _, fun b h1 _ => hb.block b (by omega)⟩
theorem Upper.trans {B : Nat} {w w' w'' : World} (h : Upper B w w') (k : Upper B w' w'') : Upper B w w'' := ⟨Nat.le_trans h.size k.size, fun b h1 h2 => (k.block b h1 (Nat.lt_of_lt_of_le h2 h.size)).trans (h.block b h1 h2)⟩
theorem Upper.mono {B B' : Nat} {w w' : World} (h : Upper B w w') (hB : B ≤ B') : Upper B' w w' := ⟨h.size, fun b h1 h2 => h.block b (by omega) h2⟩
theorem upper_sets (g : Nat) : ∀ (vs : List Value) (o : Nat) (w : World), Upper (g + 1) w (w.setCells g o vs)
  | [], _, _ => ⟨Nat.le_refl _, fun _ _ _ => rfl⟩
  | v :: r, o, w => (upper_set v).trans (upper_sets g r (o + 1) (w.setCell ⟨g, o, none⟩ v))
theorem below_sets {w0 : World} (g : Nat) (hg : w0.heap.size ≤ g) : ∀ (vs : List Value) (o : Nat) (w : World), Below w0.heap.size w0 w → Below w0.heap.size w0 (w.setCells g o vs)
  | [], _, _, h => h
  | v :: r, o, _, h => below_sets g hg r (o + 1) _ (h.setCell (p := ⟨g, o, none⟩) hg v)
/-- A box that may be written. -/
def OB (w : World) (b : Nat) (L : List Value) : Prop := b < w.heap.size ∧ ∀ c u, L[c]? = some u → w.cell? ⟨b, c, none⟩ = some u ∧ w.frozen? ⟨b, c, none⟩ = false
theorem OB.new (w : World) (vs : Array Value) (t : TypeId) : OB (w.alloc (.cells vs t)) w.heap.size vs.toList := by
  refine ⟨by simp, fun c u hu => ⟨(Box.new w vs t _).2 c u hu, by simp [go_sem]⟩⟩
theorem OB.below {w w' : World} {b : Nat} {L : List Value} (h : OB w b L) (hb : Below w.heap.size w w') : OB w' b L := ⟨Nat.lt_of_lt_of_le h.1 hb.size, fun c u hu => ⟨(hb.cell (p := ⟨b, c, none⟩) h.1).trans (h.2 c u hu).1, (hb.frozen (p := ⟨b, c, none⟩) h.1).trans (h.2 c u hu).2⟩⟩
theorem OB.set {w : World} {b : Nat} {L : List Value} (h : OB w b L) (c : Nat) (v : Value) : OB (w.setCell ⟨b, c, none⟩ v) b (L.set c v) := by
  refine ⟨by simpa using h.1, fun j u hu => ?_⟩
  by_cases e : c = j
  · subst e
    by_cases hc : c < L.length
    · rw [List.getElem?_set, if_pos rfl, if_pos hc] at hu
      cases hu
      have h2 := h.2 c _ (List.getElem?_eq_getElem hc)
      exact ⟨set_same h2.1, by rw [World.frozen?_setCell]; exact h2.2⟩
    · rw [List.getElem?_eq_none (by rw [List.length_set]; omega)] at hu
      cases hu
  · rw [List.getElem?_set, if_neg e] at hu
    have h2 := h.2 j u hu
    exact ⟨(set_other (fun e' => e e'.symm)).trans h2.1, by rw [World.frozen?_setCell]; exact h2.2⟩
def setL : List Value → Nat → List Value → List Value
  | L, _, [] => L
  | L, o, v :: r => setL (L.set o v) (o + 1) r
theorem OB.sets {b : Nat} : ∀ (vs : List Value) (o : Nat) {w : World} {L : List Value}, OB w b L → OB (w.setCells b o vs) b (setL L o vs)
  | [], _, _, _, h => h
  | v :: r, o, _, _, h => OB.sets r (o + 1) (h.set o v)
theorem OB.upper {B : Nat} {w w' : World} {b : Nat} {L : List Value} (h : OB w b L) (hu : Upper B w w') (hB : B ≤ b) : OB w' b L := ⟨Nat.lt_of_lt_of_le h.1 hu.size, fun c u hc => ⟨(hu.cell hB h.1).trans (h.2 c u hc).1, (World.frozen?_of_block (w := w) (a := ⟨b, c, none⟩) (hu.block b hB h.1)).trans (h.2 c u hc).2⟩⟩
theorem OB.but {w w' : World} {g b : Nat} {L : List Value} (h : OB w b L) (hb : But g w w') (hne : b ≠ g) : OB w' b L := ⟨by rw [hb.size]; exact h.1, fun c u hc => ⟨(hb.cell (p := ⟨b, c, none⟩) hne).trans (h.2 c u hc).1, (World.frozen?_of_block (w := w) (a := ⟨b, c, none⟩) (hb.block b hne)).trans (h.2 c u hc).2⟩⟩
theorem but_trans {g : Nat} {w w' w'' : World} (h : But g w w') (k : But g w' w'') : But g w w'' := ⟨k.os.trans h.os, k.tape.trans h.tape, k.output.trans h.output, k.size.trans h.size, fun b hb => (k.block b hb).trans (h.block b hb)⟩
theorem but_sets (g : Nat) : ∀ (vs : List Value) (o : Nat) (w : World), But g w (w.setCells g o vs)
  | [], _, w => But.refl g w
  | v :: r, o, w => but_trans ((But.refl g w).set o v) (but_sets g r (o + 1) _)
theorem OB.box {w : World} {b : Nat} {L : List Value} (h : OB w b L) : Box w b L := ⟨h.1, fun c u hu => (h.2 c u hu).1⟩
theorem OB.there {w : World} {b : Nat} {L : List Value} (h : OB w b L) (o n : Nat) (hn : o + n ≤ L.length) : w.there b o n := fun j hj => by
  have h2 := h.2 (o + j) _ (List.getElem?_eq_getElem (by omega))
  exact ⟨by rw [h2.1]; rfl, h2.2⟩
theorem Box.upper {B : Nat} {w w' : World} {b : Nat} {L : List Value} (h : Box w b L) (hb : But B w w') (hne : b ≠ B) : Box w' b L := ⟨by rw [hb.size]; exact h.1, fun c u hc => (hb.cell (p := ⟨b, c, none⟩) hne).trans (h.2 c u hc)⟩
/-- Within a function that copies a struct: its argument in a box, the answer's box, the box that is filled. -/
structure TS (w0 W : World) (pc zc oc : List Value) : Prop where
  bl : Below w0.heap.size w0 W
  px : Box W w0.heap.size pc
  rz : OB W (w0.heap.size + 1) zc
  ox : OB W (w0.heap.size + 1 + 1) oc
theorem TS.new (w : World) (pc zc oc : Array Value) (t u v : TypeId) : TS w (((w.alloc (.cells pc t)).alloc (.cells zc u)).alloc (.cells oc v)) pc.toList zc.toList oc.toList := by
  refine ⟨bl_alloc (bl_alloc (bl_a _) _) _, ?_, ?_, ?_⟩
  · exact ((Box.new w pc t _).below (bl_a _)).below (bl_a _)
  · have h := (OB.new (w.alloc (.cells pc t)) zc u).below (bl_a (.cells oc v))
    simpa using h
  · have h := OB.new ((w.alloc (.cells pc t)).alloc (.cells zc u)) oc v
    simpa using h
theorem TS.below {w0 W W' : World} {pc zc oc : List Value} (h : TS w0 W pc zc oc) (hb : Below W.heap.size W W') : TS w0 W' pc zc oc := ⟨bl_trans h.bl hb, h.px.below hb, h.rz.below hb, h.ox.below hb⟩
theorem TS.set {w0 W : World} {pc zc oc : List Value} (h : TS w0 W pc zc oc) (c : Nat) (v : Value) : TS w0 (W.setCell ⟨w0.heap.size + 1 + 1, c, none⟩ v) pc zc (oc.set c v) := by
  have hb : But (w0.heap.size + 1 + 1) W (W.setCell ⟨w0.heap.size + 1 + 1, c, none⟩ v) := (But.refl _ _).set c v
  exact ⟨h.bl.setCell (p := ⟨w0.heap.size + 1 + 1, c, none⟩) (by show w0.heap.size ≤ w0.heap.size + 1 + 1; omega) v, h.px.upper hb (by omega), h.rz.but hb (by omega), h.ox.set c v⟩
theorem TS.sets {w0 W : World} {pc zc oc : List Value} (h : TS w0 W pc zc oc) (o : Nat) (vs : List Value) : TS w0 (W.setCells (w0.heap.size + 1 + 1) o vs) pc zc (setL oc o vs) :=
  ⟨below_sets _ (by omega) vs o W h.bl, h.px.upper (but_sets _ vs o W) (by omega), h.rz.but (but_sets _ vs o W) (by omega), h.ox.sets vs o⟩
theorem TS.base {w0 W : World} {pc zc oc : List Value} (h : TS w0 W pc zc oc) : w0.heap.size + 1 + 1 + 1 ≤ W.heap.size := h.ox.1
theorem results_cell {P : Program} {fn : Func} {tmps : Array Value} {w : World} {a : Nat} {t : TypeId} {ad : Addr} {v : Value} (hf : fn.results = #[.cell a t]) (ht : tmps.getD a undef = .pointer (some ad)) (hl : (loadVar t ad).run P w = .ok v w) : (results fn tmps).run P w = .ok v w := by
  have h2 : tmps[a]?.getD undef = .pointer (some ad) := by simpa using ht
  simp [results, hf, h2, asAddr, hl]
/-- The copy of a text. -/
theorem toByteS_to (x : SL) (w : World) (h : BsF 0 w x) : Calls Try.prog 24 #[.slice x.a x.len x.cap] w fun e w' => ∃ y : SL, e = .returned (.slice y.a y.len y.cap) ∧ BsF w.heap.size w' y ∧ x.b = y.b ∧ Below w.heap.size w w' := by
  refine (toByteS_any x.a x.len x.cap x.b w h.1).mono ?_
  rintro e w' ⟨rfl, rfl⟩
  obtain ⟨h1, h2, h3, _⟩ := h.1
  exact ⟨⟨some ⟨w.heap.size, 0, none⟩, x.len, x.len, x.b⟩, rfl, ⟨Bs.made w x.b x.len h1 h2 h3, .inr fun p hp => by cases hp; exact Nat.le_refl _⟩, rfl, bl_a _⟩

theorem toTerm_to (x : TB) (w : World) (h : BsF 0 w x.sl) (hf : x.t.fits) : Calls Try.prog 53 #[.agg #[.int .i64 x.t.k, .slice x.t.a x.t.len x.t.cap, .int .i64 x.t.n, .int .i64 x.t.s]] w fun e w' => ∃ y : TB, e = .returned (.agg #[.int .i64 y.t.k, .slice y.t.a y.t.len y.t.cap, .int .i64 y.t.n, .int .i64 y.t.s]) ∧ BsF w.heap.size w' y.sl ∧ y.t.fits ∧ x.td = y.td ∧ Below w.heap.size w w' := by
  refine (toTerm_new x.t.k x.t.n x.t.s x.t.a x.t.len x.t.cap x.b w h.1).mono ?_
  rintro e w' ⟨g, rfl, hO, hg, hb⟩
  exact ⟨⟨⟨x.t.k, some ⟨g, 0, none⟩, x.t.len, x.t.len, x.t.n, x.t.s⟩, x.b⟩, rfl, ⟨hO.1, .inr fun p hp => by cases hp; exact hg⟩, hf, rfl, hb⟩

theorem toItem_to (x : IB) (w : World) (h : x.lies 0 w) : Calls Try.prog 63 #[.agg #[.slice x.v.a x.v.len x.v.cap, .int .i64 x.t.t.k, .slice x.t.t.a x.t.t.len x.t.t.cap, .int .i64 x.t.t.n, .int .i64 x.t.t.s]] w fun e w' => ∃ y : IB, e = .returned (.agg #[.slice y.v.a y.v.len y.v.cap, .int .i64 y.t.t.k, .slice y.t.t.a y.t.t.len y.t.t.cap, .int .i64 y.t.t.n, .int .i64 y.t.t.s]) ∧ y.lies w.heap.size w' ∧ x.same y ∧ Below w.heap.size w w' := by
  have HZ1 : Hid (∀ (W : World), Below w.heap.size w W → Calls Try.prog 24 #[.slice x.v.a x.v.len x.v.cap] W fun e w' => ∃ y : SL, e = .returned (.slice y.a y.len y.cap) ∧ BsF W.heap.size w' y ∧ x.v.b = y.b ∧ Below W.heap.size W w') := fun W hb => toByteS_to x.v W (h.1.upper (Upper.of_below hb))
  have HZ2 : Hid (∀ (W : World), Below w.heap.size w W → Calls Try.prog 53 #[.agg #[.int .i64 x.t.t.k, .slice x.t.t.a x.t.t.len x.t.t.cap, .int .i64 x.t.t.n, .int .i64 x.t.t.s]] W fun e w' => ∃ y : TB, e = .returned (.agg #[.int .i64 y.t.k, .slice y.t.a y.t.len y.t.cap, .int .i64 y.t.n, .int .i64 y.t.s]) ∧ BsF W.heap.size w' y.sl ∧ y.t.fits ∧ x.t.td = y.td ∧ Below W.heap.size W w') := fun W hb => toTerm_to x.t W (h.2.1.upper (Upper.of_below hb)) h.2.2
  clear h
  go_enter Try.func63, Try.ntmps63
  have Z1 := HZ1.out
  go_wp2_with fail
  refine (Z1 _ (bl_alloc (bl_alloc (bl_a _) _) _)).mono ?_
  rintro e w1 ⟨y1, rfl, hy1, he1, hb1⟩
  have HT : Hid (TS w w1 [.slice x.v.a x.v.len x.v.cap, .int .i64 x.t.t.k, .slice x.t.t.a x.t.t.len x.t.t.cap, .int .i64 x.t.t.n, .int .i64 x.t.t.s] [.slice none 0 0, .int .i64 0, .slice none 0 0, .int .i64 0, .int .i64 0] [.slice none 0 0, .int .i64 0, .slice none 0 0, .int .i64 0, .int .i64 0]) := (TS.new w #[.slice x.v.a x.v.len x.v.cap, .int .i64 x.t.t.k, .slice x.t.t.a x.t.t.len x.t.t.cap, .int .i64 x.t.t.n, .int .i64 x.t.t.s] #[.slice none 0 0, .int .i64 0, .slice none 0 0, .int .i64 0, .int .i64 0] #[.slice none 0 0, .int .i64 0, .slice none 0 0, .int .i64 0, .int .i64 0] 48 57 57).below hb1
  have e3 : (w.heap.size + 1 + 1 + 1) ≤ (((w.alloc (.cells #[.slice x.v.a x.v.len x.v.cap, .int .i64 x.t.t.k, .slice x.t.t.a x.t.t.len x.t.t.cap, .int .i64 x.t.t.n, .int .i64 x.t.t.s] 48)).alloc (.cells #[.slice none 0 0, .int .i64 0, .slice none 0 0, .int .i64 0, .int .i64 0] 57)).alloc (.cells #[.slice none 0 0, .int .i64 0, .slice none 0 0, .int .i64 0, .int .i64 0] 57)).heap.size := by simp
  have HM1 : Hid (BsF (w.heap.size + 1 + 1 + 1) (w1.setCell ⟨w.heap.size + 1 + 1, 0, none⟩ (.slice y1.a y1.len y1.cap)) y1) := (hy1.base e3).upper (upper_set (w := w1) (g := w.heap.size + 1 + 1) (i := 0) (.slice y1.a y1.len y1.cap))
  have HE1 : Hid (x.v.b = y1.b) := he1
  have HTn : Hid (TS w (w1.setCell ⟨w.heap.size + 1 + 1, 0, none⟩ (.slice y1.a y1.len y1.cap)) [.slice x.v.a x.v.len x.v.cap, .int .i64 x.t.t.k, .slice x.t.t.a x.t.t.len x.t.t.cap, .int .i64 x.t.t.n, .int .i64 x.t.t.s] [.slice none 0 0, .int .i64 0, .slice none 0 0, .int .i64 0, .int .i64 0] [.slice y1.a y1.len y1.cap, .int .i64 0, .slice none 0 0, .int .i64 0, .int .i64 0]) := HT.out.set 0 _
  have st0 := (HT.out.ox.2 0 _ rfl).1
  have st1 := (HT.out.ox.2 0 _ rfl).2
  clear hy1 he1 hb1 e3 Z1 HZ1
  go_upto_region 3 with fail
  clear st0 st1 HT
  generalize (w1.setCell ⟨w.heap.size + 1 + 1, 0, none⟩ (.slice y1.a y1.len y1.cap)) = W1 at *
  have HT := HTn
  clear HTn
  have ld : W1.rangeAt w.heap.size 1 [.int .i64 x.t.t.k, .slice x.t.t.a x.t.t.len x.t.t.cap, .int .i64 x.t.t.n, .int .i64 x.t.t.s] := HT.out.px.range 1 _ rfl
  have Z2 := HZ2.out
  go_wp2_with (refine wpList_load_mid rfl 25 _ rfl w.heap.size 1 rfl [.int .i64 x.t.t.k, .slice x.t.t.a x.t.t.len x.t.t.cap, .int .i64 x.t.t.n, .int .i64 x.t.t.s] _ ld Try.underlying25 rfl (by kernel_rfl) ?_; try simp only [Act.put, List.setIfInBounds_toArray, List.set_cons_zero, List.set_cons_succ])
  refine (Z2 _ HT.out.bl).mono ?_
  rintro e w2 ⟨y2, rfl, hy2, hf2, he2, hb2⟩
  have e3 : (w.heap.size + 1 + 1 + 1) ≤ W1.heap.size := HT.out.base
  have HT : Hid (TS w w2 [.slice x.v.a x.v.len x.v.cap, .int .i64 x.t.t.k, .slice x.t.t.a x.t.t.len x.t.t.cap, .int .i64 x.t.t.n, .int .i64 x.t.t.s] [.slice none 0 0, .int .i64 0, .slice none 0 0, .int .i64 0, .int .i64 0] [.slice y1.a y1.len y1.cap, .int .i64 0, .slice none 0 0, .int .i64 0, .int .i64 0]) := HT.out.below hb2
  have HM2 : Hid (BsF (w.heap.size + 1 + 1 + 1) (w2.setCells (w.heap.size + 1 + 1) 1 [.int .i64 y2.t.k, .slice y2.t.a y2.t.len y2.t.cap, .int .i64 y2.t.n, .int .i64 y2.t.s]) y2.sl) := (hy2.base e3).upper (upper_sets (w.heap.size + 1 + 1) [.int .i64 y2.t.k, .slice y2.t.a y2.t.len y2.t.cap, .int .i64 y2.t.n, .int .i64 y2.t.s] 1 w2)
  have HM1 : Hid (BsF (w.heap.size + 1 + 1 + 1) (w2.setCells (w.heap.size + 1 + 1) 1 [.int .i64 y2.t.k, .slice y2.t.a y2.t.len y2.t.cap, .int .i64 y2.t.n, .int .i64 y2.t.s]) y1) := (HM1.out.upper (Upper.of_below hb2)).upper (upper_sets (w.heap.size + 1 + 1) [.int .i64 y2.t.k, .slice y2.t.a y2.t.len y2.t.cap, .int .i64 y2.t.n, .int .i64 y2.t.s] 1 w2)
  have HE2 : Hid (x.t.td = y2.td) := he2
  have HF2 : Hid (y2.t.fits) := hf2
  have HTn : Hid (TS w (w2.setCells (w.heap.size + 1 + 1) 1 [.int .i64 y2.t.k, .slice y2.t.a y2.t.len y2.t.cap, .int .i64 y2.t.n, .int .i64 y2.t.s]) [.slice x.v.a x.v.len x.v.cap, .int .i64 x.t.t.k, .slice x.t.t.a x.t.t.len x.t.t.cap, .int .i64 x.t.t.n, .int .i64 x.t.t.s] [.slice none 0 0, .int .i64 0, .slice none 0 0, .int .i64 0, .int .i64 0] [.slice y1.a y1.len y1.cap, .int .i64 y2.t.k, .slice y2.t.a y2.t.len y2.t.cap, .int .i64 y2.t.n, .int .i64 y2.t.s]) := HT.out.sets 1 _
  have st0 : w2.there (w.heap.size + 1 + 1) 1 4 := HT.out.ox.there 1 4 (by simp)
  have one1 : (#[.int .i64 y2.t.k, .slice y2.t.a y2.t.len y2.t.cap, .int .i64 y2.t.n, .int .i64 y2.t.s] : Array Value).all (·.oneCell') = true := all_oneCell_toArray (cs := [.int .i64 y2.t.k, .slice y2.t.a y2.t.len y2.t.cap, .int .i64 y2.t.n, .int .i64 y2.t.s]) (by simp [Value.oneCell'])
  clear hy2 he2 hf2 hb2 e3 Z2 HZ2 ld
  go_upto_region 4 with (refine wpList_store_mid rfl 36 _ _ rfl (w.heap.size + 1 + 1) 1 #[.int .i64 y2.t.k, .slice y2.t.a y2.t.len y2.t.cap, .int .i64 y2.t.n, .int .i64 y2.t.s] rfl rfl st0 (by kernel_rfl) one1 ?_; try simp only [Act.put])
  clear st0 one1 HT
  generalize (w2.setCells (w.heap.size + 1 + 1) 1 [.int .i64 y2.t.k, .slice y2.t.a y2.t.len y2.t.cap, .int .i64 y2.t.n, .int .i64 y2.t.s]) = W2 at *
  have HT := HTn
  clear HTn
  have ld : W2.rangeAt (w.heap.size + 1 + 1) 0 [.slice y1.a y1.len y1.cap, .int .i64 y2.t.k, .slice y2.t.a y2.t.len y2.t.cap, .int .i64 y2.t.n, .int .i64 y2.t.s] := HT.out.ox.box.range 0 _ rfl
  have st0 : W2.there (w.heap.size + 1) 0 5 := HT.out.rz.there 0 5 (by simp)
  have one1 : (#[.slice y1.a y1.len y1.cap, .int .i64 y2.t.k, .slice y2.t.a y2.t.len y2.t.cap, .int .i64 y2.t.n, .int .i64 y2.t.s] : Array Value).all (·.oneCell') = true := all_oneCell_toArray (cs := [.slice y1.a y1.len y1.cap, .int .i64 y2.t.k, .slice y2.t.a y2.t.len y2.t.cap, .int .i64 y2.t.n, .int .i64 y2.t.s]) (by simp [Value.oneCell'])
  go_wp2_with (first | (refine wpList_load_mid rfl 57 _ rfl (w.heap.size + 1 + 1) 0 rfl [.slice y1.a y1.len y1.cap, .int .i64 y2.t.k, .slice y2.t.a y2.t.len y2.t.cap, .int .i64 y2.t.n, .int .i64 y2.t.s] _ ld Try.underlying57 rfl (by kernel_rfl) ?_; try simp only [Act.put, List.setIfInBounds_toArray, List.set_cons_zero, List.set_cons_succ]) | (refine wpList_store_mid rfl 57 _ _ rfl (w.heap.size + 1) 0 #[.slice y1.a y1.len y1.cap, .int .i64 y2.t.k, .slice y2.t.a y2.t.len y2.t.cap, .int .i64 y2.t.n, .int .i64 y2.t.s] rfl rfl st0 (by kernel_rfl) one1 ?_; try simp only [Act.put]))
  have hrd : (W2.setCells (w.heap.size + 1) 0 [.slice y1.a y1.len y1.cap, .int .i64 y2.t.k, .slice y2.t.a y2.t.len y2.t.cap, .int .i64 y2.t.n, .int .i64 y2.t.s]).rangeAt (w.heap.size + 1) 0 [.slice y1.a y1.len y1.cap, .int .i64 y2.t.k, .slice y2.t.a y2.t.len y2.t.cap, .int .i64 y2.t.n, .int .i64 y2.t.s] := World.rangeAt_setCells_same _ _ _ _ st0
  refine bodyPost_ret (v := .agg #[.slice y1.a y1.len y1.cap, .int .i64 y2.t.k, .slice y2.t.a y2.t.len y2.t.cap, .int .i64 y2.t.n, .int .i64 y2.t.s]) ?hr rfl ?hp
  case hr => exact results_cell rfl rfl (run_loadVar_mid (P := Try.prog) _ (w.heap.size + 1) 0 57 [.slice y1.a y1.len y1.cap, .int .i64 y2.t.k, .slice y2.t.a y2.t.len y2.t.cap, .int .i64 y2.t.n, .int .i64 y2.t.s] _ hrd Try.underlying57 rfl (by kernel_rfl))
  have HM2f : BsF w.heap.size (W2.setCells (w.heap.size + 1) 0 [.slice y1.a y1.len y1.cap, .int .i64 y2.t.k, .slice y2.t.a y2.t.len y2.t.cap, .int .i64 y2.t.n, .int .i64 y2.t.s]) y2.sl := ((HM2.out.upper ((upper_sets (w.heap.size + 1) [.slice y1.a y1.len y1.cap, .int .i64 y2.t.k, .slice y2.t.a y2.t.len y2.t.cap, .int .i64 y2.t.n, .int .i64 y2.t.s] 0 W2).mono (by omega))).base (by omega))
  have HM1f : BsF w.heap.size (W2.setCells (w.heap.size + 1) 0 [.slice y1.a y1.len y1.cap, .int .i64 y2.t.k, .slice y2.t.a y2.t.len y2.t.cap, .int .i64 y2.t.n, .int .i64 y2.t.s]) y1 := ((HM1.out.upper ((upper_sets (w.heap.size + 1) [.slice y1.a y1.len y1.cap, .int .i64 y2.t.k, .slice y2.t.a y2.t.len y2.t.cap, .int .i64 y2.t.n, .int .i64 y2.t.s] 0 W2).mono (by omega))).base (by omega))
  have hbf : Below w.heap.size w (W2.setCells (w.heap.size + 1) 0 [.slice y1.a y1.len y1.cap, .int .i64 y2.t.k, .slice y2.t.a y2.t.len y2.t.cap, .int .i64 y2.t.n, .int .i64 y2.t.s]) := below_sets _ (by omega) _ _ _ HT.out.bl
  exact ⟨⟨y1, y2⟩, rfl, ⟨HM1f, HM2f, HF2.out⟩, ⟨HE1.out, HE2.out⟩, hbf⟩
set_option maxHeartbeats 1000000 in
theorem toPat_to (x : PB) (w : World) (h : x.lies 0 w) : Calls Try.prog 38 #[.agg #[.slice x.s.v.a x.s.v.len x.s.v.cap, .int .i64 x.s.t.t.k, .slice x.s.t.t.a x.s.t.t.len x.s.t.t.cap, .int .i64 x.s.t.t.n, .int .i64 x.s.t.t.s, .slice x.p.v.a x.p.v.len x.p.v.cap, .int .i64 x.p.t.t.k, .slice x.p.t.t.a x.p.t.t.len x.p.t.t.cap, .int .i64 x.p.t.t.n, .int .i64 x.p.t.t.s, .slice x.o.v.a x.o.v.len x.o.v.cap, .int .i64 x.o.t.t.k, .slice x.o.t.t.a x.o.t.t.len x.o.t.t.cap, .int .i64 x.o.t.t.n, .int .i64 x.o.t.t.s]] w fun e w' => ∃ y : PB, e = .returned (.agg #[.slice y.s.v.a y.s.v.len y.s.v.cap, .int .i64 y.s.t.t.k, .slice y.s.t.t.a y.s.t.t.len y.s.t.t.cap, .int .i64 y.s.t.t.n, .int .i64 y.s.t.t.s, .slice y.p.v.a y.p.v.len y.p.v.cap, .int .i64 y.p.t.t.k, .slice y.p.t.t.a y.p.t.t.len y.p.t.t.cap, .int .i64 y.p.t.t.n, .int .i64 y.p.t.t.s, .slice y.o.v.a y.o.v.len y.o.v.cap, .int .i64 y.o.t.t.k, .slice y.o.t.t.a y.o.t.t.len y.o.t.t.cap, .int .i64 y.o.t.t.n, .int .i64 y.o.t.t.s]) ∧ y.lies w.heap.size w' ∧ x.same y ∧ Below w.heap.size w w' := by
  have HZ1 : Hid (∀ (W : World), Below w.heap.size w W → Calls Try.prog 63 #[.agg #[.slice x.s.v.a x.s.v.len x.s.v.cap, .int .i64 x.s.t.t.k, .slice x.s.t.t.a x.s.t.t.len x.s.t.t.cap, .int .i64 x.s.t.t.n, .int .i64 x.s.t.t.s]] W fun e w' => ∃ y : IB, e = .returned (.agg #[.slice y.v.a y.v.len y.v.cap, .int .i64 y.t.t.k, .slice y.t.t.a y.t.t.len y.t.t.cap, .int .i64 y.t.t.n, .int .i64 y.t.t.s]) ∧ y.lies W.heap.size w' ∧ x.s.same y ∧ Below W.heap.size W w') := fun W hb => toItem_to x.s W (h.1.upper (Upper.of_below hb))
  have HZ2 : Hid (∀ (W : World), Below w.heap.size w W → Calls Try.prog 63 #[.agg #[.slice x.p.v.a x.p.v.len x.p.v.cap, .int .i64 x.p.t.t.k, .slice x.p.t.t.a x.p.t.t.len x.p.t.t.cap, .int .i64 x.p.t.t.n, .int .i64 x.p.t.t.s]] W fun e w' => ∃ y : IB, e = .returned (.agg #[.slice y.v.a y.v.len y.v.cap, .int .i64 y.t.t.k, .slice y.t.t.a y.t.t.len y.t.t.cap, .int .i64 y.t.t.n, .int .i64 y.t.t.s]) ∧ y.lies W.heap.size w' ∧ x.p.same y ∧ Below W.heap.size W w') := fun W hb => toItem_to x.p W (h.2.1.upper (Upper.of_below hb))
  have HZ3 : Hid (∀ (W : World), Below w.heap.size w W → Calls Try.prog 63 #[.agg #[.slice x.o.v.a x.o.v.len x.o.v.cap, .int .i64 x.o.t.t.k, .slice x.o.t.t.a x.o.t.t.len x.o.t.t.cap, .int .i64 x.o.t.t.n, .int .i64 x.o.t.t.s]] W fun e w' => ∃ y : IB, e = .returned (.agg #[.slice y.v.a y.v.len y.v.cap, .int .i64 y.t.t.k, .slice y.t.t.a y.t.t.len y.t.t.cap, .int .i64 y.t.t.n, .int .i64 y.t.t.s]) ∧ y.lies W.heap.size w' ∧ x.o.same y ∧ Below W.heap.size W w') := fun W hb => toItem_to x.o W (h.2.2.upper (Upper.of_below hb))
  clear h
  go_enter Try.func38, Try.ntmps38
  have Z1 := HZ1.out
  go_wp2_with fail
  refine (Z1 _ (bl_alloc (bl_alloc (bl_a _) _) _)).mono ?_
  rintro e w1 ⟨y1, rfl, hy1, he1, hb1⟩
  have HT : Hid (TS w w1 [.slice x.s.v.a x.s.v.len x.s.v.cap, .int .i64 x.s.t.t.k, .slice x.s.t.t.a x.s.t.t.len x.s.t.t.cap, .int .i64 x.s.t.t.n, .int .i64 x.s.t.t.s, .slice x.p.v.a x.p.v.len x.p.v.cap, .int .i64 x.p.t.t.k, .slice x.p.t.t.a x.p.t.t.len x.p.t.t.cap, .int .i64 x.p.t.t.n, .int .i64 x.p.t.t.s, .slice x.o.v.a x.o.v.len x.o.v.cap, .int .i64 x.o.t.t.k, .slice x.o.t.t.a x.o.t.t.len x.o.t.t.cap, .int .i64 x.o.t.t.n, .int .i64 x.o.t.t.s] [.slice none 0 0, .int .i64 0, .slice none 0 0, .int .i64 0, .int .i64 0, .slice none 0 0, .int .i64 0, .slice none 0 0, .int .i64 0, .int .i64 0, .slice none 0 0, .int .i64 0, .slice none 0 0, .int .i64 0, .int .i64 0] [.slice none 0 0, .int .i64 0, .slice none 0 0, .int .i64 0, .int .i64 0, .slice none 0 0, .int .i64 0, .slice none 0 0, .int .i64 0, .int .i64 0, .slice none 0 0, .int .i64 0, .slice none 0 0, .int .i64 0, .int .i64 0]) := (TS.new w #[.slice x.s.v.a x.s.v.len x.s.v.cap, .int .i64 x.s.t.t.k, .slice x.s.t.t.a x.s.t.t.len x.s.t.t.cap, .int .i64 x.s.t.t.n, .int .i64 x.s.t.t.s, .slice x.p.v.a x.p.v.len x.p.v.cap, .int .i64 x.p.t.t.k, .slice x.p.t.t.a x.p.t.t.len x.p.t.t.cap, .int .i64 x.p.t.t.n, .int .i64 x.p.t.t.s, .slice x.o.v.a x.o.v.len x.o.v.cap, .int .i64 x.o.t.t.k, .slice x.o.t.t.a x.o.t.t.len x.o.t.t.cap, .int .i64 x.o.t.t.n, .int .i64 x.o.t.t.s] #[.slice none 0 0, .int .i64 0, .slice none 0 0, .int .i64 0, .int .i64 0, .slice none 0 0, .int .i64 0, .slice none 0 0, .int .i64 0, .int .i64 0, .slice none 0 0, .int .i64 0, .slice none 0 0, .int .i64 0, .int .i64 0] #[.slice none 0 0, .int .i64 0, .slice none 0 0, .int .i64 0, .int .i64 0, .slice none 0 0, .int .i64 0, .slice none 0 0, .int .i64 0, .int .i64 0, .slice none 0 0, .int .i64 0, .slice none 0 0, .int .i64 0, .int .i64 0] 50 59 59).below hb1
  have e3 : (w.heap.size + 1 + 1 + 1) ≤ (((w.alloc (.cells #[.slice x.s.v.a x.s.v.len x.s.v.cap, .int .i64 x.s.t.t.k, .slice x.s.t.t.a x.s.t.t.len x.s.t.t.cap, .int .i64 x.s.t.t.n, .int .i64 x.s.t.t.s, .slice x.p.v.a x.p.v.len x.p.v.cap, .int .i64 x.p.t.t.k, .slice x.p.t.t.a x.p.t.t.len x.p.t.t.cap, .int .i64 x.p.t.t.n, .int .i64 x.p.t.t.s, .slice x.o.v.a x.o.v.len x.o.v.cap, .int .i64 x.o.t.t.k, .slice x.o.t.t.a x.o.t.t.len x.o.t.t.cap, .int .i64 x.o.t.t.n, .int .i64 x.o.t.t.s] 50)).alloc (.cells #[.slice none 0 0, .int .i64 0, .slice none 0 0, .int .i64 0, .int .i64 0, .slice none 0 0, .int .i64 0, .slice none 0 0, .int .i64 0, .int .i64 0, .slice none 0 0, .int .i64 0, .slice none 0 0, .int .i64 0, .int .i64 0] 59)).alloc (.cells #[.slice none 0 0, .int .i64 0, .slice none 0 0, .int .i64 0, .int .i64 0, .slice none 0 0, .int .i64 0, .slice none 0 0, .int .i64 0, .int .i64 0, .slice none 0 0, .int .i64 0, .slice none 0 0, .int .i64 0, .int .i64 0] 59)).heap.size := by simp
  have HM1 : Hid (y1.lies (w.heap.size + 1 + 1 + 1) (w1.setCells (w.heap.size + 1 + 1) 0 [.slice y1.v.a y1.v.len y1.v.cap, .int .i64 y1.t.t.k, .slice y1.t.t.a y1.t.t.len y1.t.t.cap, .int .i64 y1.t.t.n, .int .i64 y1.t.t.s])) := (hy1.base e3).upper (upper_sets (w.heap.size + 1 + 1) [.slice y1.v.a y1.v.len y1.v.cap, .int .i64 y1.t.t.k, .slice y1.t.t.a y1.t.t.len y1.t.t.cap, .int .i64 y1.t.t.n, .int .i64 y1.t.t.s] 0 w1)
  have HE1 : Hid (x.s.same y1) := he1
  have HTn : Hid (TS w (w1.setCells (w.heap.size + 1 + 1) 0 [.slice y1.v.a y1.v.len y1.v.cap, .int .i64 y1.t.t.k, .slice y1.t.t.a y1.t.t.len y1.t.t.cap, .int .i64 y1.t.t.n, .int .i64 y1.t.t.s]) [.slice x.s.v.a x.s.v.len x.s.v.cap, .int .i64 x.s.t.t.k, .slice x.s.t.t.a x.s.t.t.len x.s.t.t.cap, .int .i64 x.s.t.t.n, .int .i64 x.s.t.t.s, .slice x.p.v.a x.p.v.len x.p.v.cap, .int .i64 x.p.t.t.k, .slice x.p.t.t.a x.p.t.t.len x.p.t.t.cap, .int .i64 x.p.t.t.n, .int .i64 x.p.t.t.s, .slice x.o.v.a x.o.v.len x.o.v.cap, .int .i64 x.o.t.t.k, .slice x.o.t.t.a x.o.t.t.len x.o.t.t.cap, .int .i64 x.o.t.t.n, .int .i64 x.o.t.t.s] [.slice none 0 0, .int .i64 0, .slice none 0 0, .int .i64 0, .int .i64 0, .slice none 0 0, .int .i64 0, .slice none 0 0, .int .i64 0, .int .i64 0, .slice none 0 0, .int .i64 0, .slice none 0 0, .int .i64 0, .int .i64 0] [.slice y1.v.a y1.v.len y1.v.cap, .int .i64 y1.t.t.k, .slice y1.t.t.a y1.t.t.len y1.t.t.cap, .int .i64 y1.t.t.n, .int .i64 y1.t.t.s, .slice none 0 0, .int .i64 0, .slice none 0 0, .int .i64 0, .int .i64 0, .slice none 0 0, .int .i64 0, .slice none 0 0, .int .i64 0, .int .i64 0]) := HT.out.sets 0 _
  have st0 : w1.there (w.heap.size + 1 + 1) 0 5 := HT.out.ox.there 0 5 (by simp)
  have one1 : (#[.slice y1.v.a y1.v.len y1.v.cap, .int .i64 y1.t.t.k, .slice y1.t.t.a y1.t.t.len y1.t.t.cap, .int .i64 y1.t.t.n, .int .i64 y1.t.t.s] : Array Value).all (·.oneCell') = true := all_oneCell_toArray (cs := [.slice y1.v.a y1.v.len y1.v.cap, .int .i64 y1.t.t.k, .slice y1.t.t.a y1.t.t.len y1.t.t.cap, .int .i64 y1.t.t.n, .int .i64 y1.t.t.s]) (by simp [Value.oneCell'])
  clear hy1 he1 hb1 e3 Z1 HZ1
  go_upto_region 3 with (refine wpList_store_mid rfl 57 _ _ rfl (w.heap.size + 1 + 1) 0 #[.slice y1.v.a y1.v.len y1.v.cap, .int .i64 y1.t.t.k, .slice y1.t.t.a y1.t.t.len y1.t.t.cap, .int .i64 y1.t.t.n, .int .i64 y1.t.t.s] rfl rfl st0 (by kernel_rfl) one1 ?_; try simp only [Act.put])
  clear st0 one1 HT
  generalize (w1.setCells (w.heap.size + 1 + 1) 0 [.slice y1.v.a y1.v.len y1.v.cap, .int .i64 y1.t.t.k, .slice y1.t.t.a y1.t.t.len y1.t.t.cap, .int .i64 y1.t.t.n, .int .i64 y1.t.t.s]) = W1 at *
  have HT := HTn
  clear HTn
  have ld : W1.rangeAt w.heap.size 5 [.slice x.p.v.a x.p.v.len x.p.v.cap, .int .i64 x.p.t.t.k, .slice x.p.t.t.a x.p.t.t.len x.p.t.t.cap, .int .i64 x.p.t.t.n, .int .i64 x.p.t.t.s] := HT.out.px.range 5 _ rfl
  have Z2 := HZ2.out
  go_wp2_with (refine wpList_load_mid rfl 48 _ rfl w.heap.size 5 rfl [.slice x.p.v.a x.p.v.len x.p.v.cap, .int .i64 x.p.t.t.k, .slice x.p.t.t.a x.p.t.t.len x.p.t.t.cap, .int .i64 x.p.t.t.n, .int .i64 x.p.t.t.s] _ ld Try.underlying48 rfl (by kernel_rfl) ?_; try simp only [Act.put, List.setIfInBounds_toArray, List.set_cons_zero, List.set_cons_succ])
  refine (Z2 _ HT.out.bl).mono ?_
  rintro e w2 ⟨y2, rfl, hy2, he2, hb2⟩
  have e3 : (w.heap.size + 1 + 1 + 1) ≤ W1.heap.size := HT.out.base
  have HT : Hid (TS w w2 [.slice x.s.v.a x.s.v.len x.s.v.cap, .int .i64 x.s.t.t.k, .slice x.s.t.t.a x.s.t.t.len x.s.t.t.cap, .int .i64 x.s.t.t.n, .int .i64 x.s.t.t.s, .slice x.p.v.a x.p.v.len x.p.v.cap, .int .i64 x.p.t.t.k, .slice x.p.t.t.a x.p.t.t.len x.p.t.t.cap, .int .i64 x.p.t.t.n, .int .i64 x.p.t.t.s, .slice x.o.v.a x.o.v.len x.o.v.cap, .int .i64 x.o.t.t.k, .slice x.o.t.t.a x.o.t.t.len x.o.t.t.cap, .int .i64 x.o.t.t.n, .int .i64 x.o.t.t.s] [.slice none 0 0, .int .i64 0, .slice none 0 0, .int .i64 0, .int .i64 0, .slice none 0 0, .int .i64 0, .slice none 0 0, .int .i64 0, .int .i64 0, .slice none 0 0, .int .i64 0, .slice none 0 0, .int .i64 0, .int .i64 0] [.slice y1.v.a y1.v.len y1.v.cap, .int .i64 y1.t.t.k, .slice y1.t.t.a y1.t.t.len y1.t.t.cap, .int .i64 y1.t.t.n, .int .i64 y1.t.t.s, .slice none 0 0, .int .i64 0, .slice none 0 0, .int .i64 0, .int .i64 0, .slice none 0 0, .int .i64 0, .slice none 0 0, .int .i64 0, .int .i64 0]) := HT.out.below hb2
  have HM2 : Hid (y2.lies (w.heap.size + 1 + 1 + 1) (w2.setCells (w.heap.size + 1 + 1) 5 [.slice y2.v.a y2.v.len y2.v.cap, .int .i64 y2.t.t.k, .slice y2.t.t.a y2.t.t.len y2.t.t.cap, .int .i64 y2.t.t.n, .int .i64 y2.t.t.s])) := (hy2.base e3).upper (upper_sets (w.heap.size + 1 + 1) [.slice y2.v.a y2.v.len y2.v.cap, .int .i64 y2.t.t.k, .slice y2.t.t.a y2.t.t.len y2.t.t.cap, .int .i64 y2.t.t.n, .int .i64 y2.t.t.s] 5 w2)
  have HM1 : Hid (y1.lies (w.heap.size + 1 + 1 + 1) (w2.setCells (w.heap.size + 1 + 1) 5 [.slice y2.v.a y2.v.len y2.v.cap, .int .i64 y2.t.t.k, .slice y2.t.t.a y2.t.t.len y2.t.t.cap, .int .i64 y2.t.t.n, .int .i64 y2.t.t.s])) := (HM1.out.upper (Upper.of_below hb2)).upper (upper_sets (w.heap.size + 1 + 1) [.slice y2.v.a y2.v.len y2.v.cap, .int .i64 y2.t.t.k, .slice y2.t.t.a y2.t.t.len y2.t.t.cap, .int .i64 y2.t.t.n, .int .i64 y2.t.t.s] 5 w2)
  have HE2 : Hid (x.p.same y2) := he2
  have HTn : Hid (TS w (w2.setCells (w.heap.size + 1 + 1) 5 [.slice y2.v.a y2.v.len y2.v.cap, .int .i64 y2.t.t.k, .slice y2.t.t.a y2.t.t.len y2.t.t.cap, .int .i64 y2.t.t.n, .int .i64 y2.t.t.s]) [.slice x.s.v.a x.s.v.len x.s.v.cap, .int .i64 x.s.t.t.k, .slice x.s.t.t.a x.s.t.t.len x.s.t.t.cap, .int .i64 x.s.t.t.n, .int .i64 x.s.t.t.s, .slice x.p.v.a x.p.v.len x.p.v.cap, .int .i64 x.p.t.t.k, .slice x.p.t.t.a x.p.t.t.len x.p.t.t.cap, .int .i64 x.p.t.t.n, .int .i64 x.p.t.t.s, .slice x.o.v.a x.o.v.len x.o.v.cap, .int .i64 x.o.t.t.k, .slice x.o.t.t.a x.o.t.t.len x.o.t.t.cap, .int .i64 x.o.t.t.n, .int .i64 x.o.t.t.s] [.slice none 0 0, .int .i64 0, .slice none 0 0, .int .i64 0, .int .i64 0, .slice none 0 0, .int .i64 0, .slice none 0 0, .int .i64 0, .int .i64 0, .slice none 0 0, .int .i64 0, .slice none 0 0, .int .i64 0, .int .i64 0] [.slice y1.v.a y1.v.len y1.v.cap, .int .i64 y1.t.t.k, .slice y1.t.t.a y1.t.t.len y1.t.t.cap, .int .i64 y1.t.t.n, .int .i64 y1.t.t.s, .slice y2.v.a y2.v.len y2.v.cap, .int .i64 y2.t.t.k, .slice y2.t.t.a y2.t.t.len y2.t.t.cap, .int .i64 y2.t.t.n, .int .i64 y2.t.t.s, .slice none 0 0, .int .i64 0, .slice none 0 0, .int .i64 0, .int .i64 0]) := HT.out.sets 5 _
  have st0 : w2.there (w.heap.size + 1 + 1) 5 5 := HT.out.ox.there 5 5 (by simp)
  have one1 : (#[.slice y2.v.a y2.v.len y2.v.cap, .int .i64 y2.t.t.k, .slice y2.t.t.a y2.t.t.len y2.t.t.cap, .int .i64 y2.t.t.n, .int .i64 y2.t.t.s] : Array Value).all (·.oneCell') = true := all_oneCell_toArray (cs := [.slice y2.v.a y2.v.len y2.v.cap, .int .i64 y2.t.t.k, .slice y2.t.t.a y2.t.t.len y2.t.t.cap, .int .i64 y2.t.t.n, .int .i64 y2.t.t.s]) (by simp [Value.oneCell'])
  clear hy2 he2 hb2 e3 Z2 HZ2 ld
  go_upto_region 4 with (refine wpList_store_mid rfl 57 _ _ rfl (w.heap.size + 1 + 1) 5 #[.slice y2.v.a y2.v.len y2.v.cap, .int .i64 y2.t.t.k, .slice y2.t.t.a y2.t.t.len y2.t.t.cap, .int .i64 y2.t.t.n, .int .i64 y2.t.t.s] rfl rfl st0 (by kernel_rfl) one1 ?_; try simp only [Act.put])
  clear st0 one1 HT
  generalize (w2.setCells (w.heap.size + 1 + 1) 5 [.slice y2.v.a y2.v.len y2.v.cap, .int .i64 y2.t.t.k, .slice y2.t.t.a y2.t.t.len y2.t.t.cap, .int .i64 y2.t.t.n, .int .i64 y2.t.t.s]) = W2 at *
  have HT := HTn
  clear HTn
  have ld : W2.rangeAt w.heap.size 10 [.slice x.o.v.a x.o.v.len x.o.v.cap, .int .i64 x.o.t.t.k, .slice x.o.t.t.a x.o.t.t.len x.o.t.t.cap, .int .i64 x.o.t.t.n, .int .i64 x.o.t.t.s] := HT.out.px.range 10 _ rfl
  have Z3 := HZ3.out
  go_wp2_with (refine wpList_load_mid rfl 48 _ rfl w.heap.size 10 rfl [.slice x.o.v.a x.o.v.len x.o.v.cap, .int .i64 x.o.t.t.k, .slice x.o.t.t.a x.o.t.t.len x.o.t.t.cap, .int .i64 x.o.t.t.n, .int .i64 x.o.t.t.s] _ ld Try.underlying48 rfl (by kernel_rfl) ?_; try simp only [Act.put, List.setIfInBounds_toArray, List.set_cons_zero, List.set_cons_succ])
  refine (Z3 _ HT.out.bl).mono ?_
  rintro e w3 ⟨y3, rfl, hy3, he3, hb3⟩
  have e3 : (w.heap.size + 1 + 1 + 1) ≤ W2.heap.size := HT.out.base
  have HT : Hid (TS w w3 [.slice x.s.v.a x.s.v.len x.s.v.cap, .int .i64 x.s.t.t.k, .slice x.s.t.t.a x.s.t.t.len x.s.t.t.cap, .int .i64 x.s.t.t.n, .int .i64 x.s.t.t.s, .slice x.p.v.a x.p.v.len x.p.v.cap, .int .i64 x.p.t.t.k, .slice x.p.t.t.a x.p.t.t.len x.p.t.t.cap, .int .i64 x.p.t.t.n, .int .i64 x.p.t.t.s, .slice x.o.v.a x.o.v.len x.o.v.cap, .int .i64 x.o.t.t.k, .slice x.o.t.t.a x.o.t.t.len x.o.t.t.cap, .int .i64 x.o.t.t.n, .int .i64 x.o.t.t.s] [.slice none 0 0, .int .i64 0, .slice none 0 0, .int .i64 0, .int .i64 0, .slice none 0 0, .int .i64 0, .slice none 0 0, .int .i64 0, .int .i64 0, .slice none 0 0, .int .i64 0, .slice none 0 0, .int .i64 0, .int .i64 0] [.slice y1.v.a y1.v.len y1.v.cap, .int .i64 y1.t.t.k, .slice y1.t.t.a y1.t.t.len y1.t.t.cap, .int .i64 y1.t.t.n, .int .i64 y1.t.t.s, .slice y2.v.a y2.v.len y2.v.cap, .int .i64 y2.t.t.k, .slice y2.t.t.a y2.t.t.len y2.t.t.cap, .int .i64 y2.t.t.n, .int .i64 y2.t.t.s, .slice none 0 0, .int .i64 0, .slice none 0 0, .int .i64 0, .int .i64 0]) := HT.out.below hb3
  have HM3 : Hid (y3.lies (w.heap.size + 1 + 1 + 1) (w3.setCells (w.heap.size + 1 + 1) 10 [.slice y3.v.a y3.v.len y3.v.cap, .int .i64 y3.t.t.k, .slice y3.t.t.a y3.t.t.len y3.t.t.cap, .int .i64 y3.t.t.n, .int .i64 y3.t.t.s])) := (hy3.base e3).upper (upper_sets (w.heap.size + 1 + 1) [.slice y3.v.a y3.v.len y3.v.cap, .int .i64 y3.t.t.k, .slice y3.t.t.a y3.t.t.len y3.t.t.cap, .int .i64 y3.t.t.n, .int .i64 y3.t.t.s] 10 w3)
  have HM2 : Hid (y2.lies (w.heap.size + 1 + 1 + 1) (w3.setCells (w.heap.size + 1 + 1) 10 [.slice y3.v.a y3.v.len y3.v.cap, .int .i64 y3.t.t.k, .slice y3.t.t.a y3.t.t.len y3.t.t.cap, .int .i64 y3.t.t.n, .int .i64 y3.t.t.s])) := (HM2.out.upper (Upper.of_below hb3)).upper (upper_sets (w.heap.size + 1 + 1) [.slice y3.v.a y3.v.len y3.v.cap, .int .i64 y3.t.t.k, .slice y3.t.t.a y3.t.t.len y3.t.t.cap, .int .i64 y3.t.t.n, .int .i64 y3.t.t.s] 10 w3)
  have HM1 : Hid (y1.lies (w.heap.size + 1 + 1 + 1) (w3.setCells (w.heap.size + 1 + 1) 10 [.slice y3.v.a y3.v.len y3.v.cap, .int .i64 y3.t.t.k, .slice y3.t.t.a y3.t.t.len y3.t.t.cap, .int .i64 y3.t.t.n, .int .i64 y3.t.t.s])) := (HM1.out.upper (Upper.of_below hb3)).upper (upper_sets (w.heap.size + 1 + 1) [.slice y3.v.a y3.v.len y3.v.cap, .int .i64 y3.t.t.k, .slice y3.t.t.a y3.t.t.len y3.t.t.cap, .int .i64 y3.t.t.n, .int .i64 y3.t.t.s] 10 w3)
  have HE3 : Hid (x.o.same y3) := he3
  have HTn : Hid (TS w (w3.setCells (w.heap.size + 1 + 1) 10 [.slice y3.v.a y3.v.len y3.v.cap, .int .i64 y3.t.t.k, .slice y3.t.t.a y3.t.t.len y3.t.t.cap, .int .i64 y3.t.t.n, .int .i64 y3.t.t.s]) [.slice x.s.v.a x.s.v.len x.s.v.cap, .int .i64 x.s.t.t.k, .slice x.s.t.t.a x.s.t.t.len x.s.t.t.cap, .int .i64 x.s.t.t.n, .int .i64 x.s.t.t.s, .slice x.p.v.a x.p.v.len x.p.v.cap, .int .i64 x.p.t.t.k, .slice x.p.t.t.a x.p.t.t.len x.p.t.t.cap, .int .i64 x.p.t.t.n, .int .i64 x.p.t.t.s, .slice x.o.v.a x.o.v.len x.o.v.cap, .int .i64 x.o.t.t.k, .slice x.o.t.t.a x.o.t.t.len x.o.t.t.cap, .int .i64 x.o.t.t.n, .int .i64 x.o.t.t.s] [.slice none 0 0, .int .i64 0, .slice none 0 0, .int .i64 0, .int .i64 0, .slice none 0 0, .int .i64 0, .slice none 0 0, .int .i64 0, .int .i64 0, .slice none 0 0, .int .i64 0, .slice none 0 0, .int .i64 0, .int .i64 0] [.slice y1.v.a y1.v.len y1.v.cap, .int .i64 y1.t.t.k, .slice y1.t.t.a y1.t.t.len y1.t.t.cap, .int .i64 y1.t.t.n, .int .i64 y1.t.t.s, .slice y2.v.a y2.v.len y2.v.cap, .int .i64 y2.t.t.k, .slice y2.t.t.a y2.t.t.len y2.t.t.cap, .int .i64 y2.t.t.n, .int .i64 y2.t.t.s, .slice y3.v.a y3.v.len y3.v.cap, .int .i64 y3.t.t.k, .slice y3.t.t.a y3.t.t.len y3.t.t.cap, .int .i64 y3.t.t.n, .int .i64 y3.t.t.s]) := HT.out.sets 10 _
  have st0 : w3.there (w.heap.size + 1 + 1) 10 5 := HT.out.ox.there 10 5 (by simp)
  have one1 : (#[.slice y3.v.a y3.v.len y3.v.cap, .int .i64 y3.t.t.k, .slice y3.t.t.a y3.t.t.len y3.t.t.cap, .int .i64 y3.t.t.n, .int .i64 y3.t.t.s] : Array Value).all (·.oneCell') = true := all_oneCell_toArray (cs := [.slice y3.v.a y3.v.len y3.v.cap, .int .i64 y3.t.t.k, .slice y3.t.t.a y3.t.t.len y3.t.t.cap, .int .i64 y3.t.t.n, .int .i64 y3.t.t.s]) (by simp [Value.oneCell'])
  clear hy3 he3 hb3 e3 Z3 HZ3 ld
  go_upto_region 5 with (refine wpList_store_mid rfl 57 _ _ rfl (w.heap.size + 1 + 1) 10 #[.slice y3.v.a y3.v.len y3.v.cap, .int .i64 y3.t.t.k, .slice y3.t.t.a y3.t.t.len y3.t.t.cap, .int .i64 y3.t.t.n, .int .i64 y3.t.t.s] rfl rfl st0 (by kernel_rfl) one1 ?_; try simp only [Act.put])
  clear st0 one1 HT
  generalize (w3.setCells (w.heap.size + 1 + 1) 10 [.slice y3.v.a y3.v.len y3.v.cap, .int .i64 y3.t.t.k, .slice y3.t.t.a y3.t.t.len y3.t.t.cap, .int .i64 y3.t.t.n, .int .i64 y3.t.t.s]) = W3 at *
  have HT := HTn
  clear HTn
  have ld : W3.rangeAt (w.heap.size + 1 + 1) 0 [.slice y1.v.a y1.v.len y1.v.cap, .int .i64 y1.t.t.k, .slice y1.t.t.a y1.t.t.len y1.t.t.cap, .int .i64 y1.t.t.n, .int .i64 y1.t.t.s, .slice y2.v.a y2.v.len y2.v.cap, .int .i64 y2.t.t.k, .slice y2.t.t.a y2.t.t.len y2.t.t.cap, .int .i64 y2.t.t.n, .int .i64 y2.t.t.s, .slice y3.v.a y3.v.len y3.v.cap, .int .i64 y3.t.t.k, .slice y3.t.t.a y3.t.t.len y3.t.t.cap, .int .i64 y3.t.t.n, .int .i64 y3.t.t.s] := HT.out.ox.box.range 0 _ rfl
  have st0 : W3.there (w.heap.size + 1) 0 15 := HT.out.rz.there 0 15 (by simp)
  have one1 : (#[.slice y1.v.a y1.v.len y1.v.cap, .int .i64 y1.t.t.k, .slice y1.t.t.a y1.t.t.len y1.t.t.cap, .int .i64 y1.t.t.n, .int .i64 y1.t.t.s, .slice y2.v.a y2.v.len y2.v.cap, .int .i64 y2.t.t.k, .slice y2.t.t.a y2.t.t.len y2.t.t.cap, .int .i64 y2.t.t.n, .int .i64 y2.t.t.s, .slice y3.v.a y3.v.len y3.v.cap, .int .i64 y3.t.t.k, .slice y3.t.t.a y3.t.t.len y3.t.t.cap, .int .i64 y3.t.t.n, .int .i64 y3.t.t.s] : Array Value).all (·.oneCell') = true := all_oneCell_toArray (cs := [.slice y1.v.a y1.v.len y1.v.cap, .int .i64 y1.t.t.k, .slice y1.t.t.a y1.t.t.len y1.t.t.cap, .int .i64 y1.t.t.n, .int .i64 y1.t.t.s, .slice y2.v.a y2.v.len y2.v.cap, .int .i64 y2.t.t.k, .slice y2.t.t.a y2.t.t.len y2.t.t.cap, .int .i64 y2.t.t.n, .int .i64 y2.t.t.s, .slice y3.v.a y3.v.len y3.v.cap, .int .i64 y3.t.t.k, .slice y3.t.t.a y3.t.t.len y3.t.t.cap, .int .i64 y3.t.t.n, .int .i64 y3.t.t.s]) (by simp [Value.oneCell'])
  go_wp2_with (first | (refine wpList_load_mid rfl 59 _ rfl (w.heap.size + 1 + 1) 0 rfl [.slice y1.v.a y1.v.len y1.v.cap, .int .i64 y1.t.t.k, .slice y1.t.t.a y1.t.t.len y1.t.t.cap, .int .i64 y1.t.t.n, .int .i64 y1.t.t.s, .slice y2.v.a y2.v.len y2.v.cap, .int .i64 y2.t.t.k, .slice y2.t.t.a y2.t.t.len y2.t.t.cap, .int .i64 y2.t.t.n, .int .i64 y2.t.t.s, .slice y3.v.a y3.v.len y3.v.cap, .int .i64 y3.t.t.k, .slice y3.t.t.a y3.t.t.len y3.t.t.cap, .int .i64 y3.t.t.n, .int .i64 y3.t.t.s] _ ld Try.underlying59 rfl (by kernel_rfl) ?_; try simp only [Act.put, List.setIfInBounds_toArray, List.set_cons_zero, List.set_cons_succ]) | (refine wpList_store_mid rfl 59 _ _ rfl (w.heap.size + 1) 0 #[.slice y1.v.a y1.v.len y1.v.cap, .int .i64 y1.t.t.k, .slice y1.t.t.a y1.t.t.len y1.t.t.cap, .int .i64 y1.t.t.n, .int .i64 y1.t.t.s, .slice y2.v.a y2.v.len y2.v.cap, .int .i64 y2.t.t.k, .slice y2.t.t.a y2.t.t.len y2.t.t.cap, .int .i64 y2.t.t.n, .int .i64 y2.t.t.s, .slice y3.v.a y3.v.len y3.v.cap, .int .i64 y3.t.t.k, .slice y3.t.t.a y3.t.t.len y3.t.t.cap, .int .i64 y3.t.t.n, .int .i64 y3.t.t.s] rfl rfl st0 (by kernel_rfl) one1 ?_; try simp only [Act.put]))
  have hrd : (W3.setCells (w.heap.size + 1) 0 [.slice y1.v.a y1.v.len y1.v.cap, .int .i64 y1.t.t.k, .slice y1.t.t.a y1.t.t.len y1.t.t.cap, .int .i64 y1.t.t.n, .int .i64 y1.t.t.s, .slice y2.v.a y2.v.len y2.v.cap, .int .i64 y2.t.t.k, .slice y2.t.t.a y2.t.t.len y2.t.t.cap, .int .i64 y2.t.t.n, .int .i64 y2.t.t.s, .slice y3.v.a y3.v.len y3.v.cap, .int .i64 y3.t.t.k, .slice y3.t.t.a y3.t.t.len y3.t.t.cap, .int .i64 y3.t.t.n, .int .i64 y3.t.t.s]).rangeAt (w.heap.size + 1) 0 [.slice y1.v.a y1.v.len y1.v.cap, .int .i64 y1.t.t.k, .slice y1.t.t.a y1.t.t.len y1.t.t.cap, .int .i64 y1.t.t.n, .int .i64 y1.t.t.s, .slice y2.v.a y2.v.len y2.v.cap, .int .i64 y2.t.t.k, .slice y2.t.t.a y2.t.t.len y2.t.t.cap, .int .i64 y2.t.t.n, .int .i64 y2.t.t.s, .slice y3.v.a y3.v.len y3.v.cap, .int .i64 y3.t.t.k, .slice y3.t.t.a y3.t.t.len y3.t.t.cap, .int .i64 y3.t.t.n, .int .i64 y3.t.t.s] := World.rangeAt_setCells_same _ _ _ _ st0
  refine bodyPost_ret (v := .agg #[.slice y1.v.a y1.v.len y1.v.cap, .int .i64 y1.t.t.k, .slice y1.t.t.a y1.t.t.len y1.t.t.cap, .int .i64 y1.t.t.n, .int .i64 y1.t.t.s, .slice y2.v.a y2.v.len y2.v.cap, .int .i64 y2.t.t.k, .slice y2.t.t.a y2.t.t.len y2.t.t.cap, .int .i64 y2.t.t.n, .int .i64 y2.t.t.s, .slice y3.v.a y3.v.len y3.v.cap, .int .i64 y3.t.t.k, .slice y3.t.t.a y3.t.t.len y3.t.t.cap, .int .i64 y3.t.t.n, .int .i64 y3.t.t.s]) ?hr rfl ?hp
  case hr => exact results_cell rfl rfl (run_loadVar_mid (P := Try.prog) _ (w.heap.size + 1) 0 59 [.slice y1.v.a y1.v.len y1.v.cap, .int .i64 y1.t.t.k, .slice y1.t.t.a y1.t.t.len y1.t.t.cap, .int .i64 y1.t.t.n, .int .i64 y1.t.t.s, .slice y2.v.a y2.v.len y2.v.cap, .int .i64 y2.t.t.k, .slice y2.t.t.a y2.t.t.len y2.t.t.cap, .int .i64 y2.t.t.n, .int .i64 y2.t.t.s, .slice y3.v.a y3.v.len y3.v.cap, .int .i64 y3.t.t.k, .slice y3.t.t.a y3.t.t.len y3.t.t.cap, .int .i64 y3.t.t.n, .int .i64 y3.t.t.s] _ hrd Try.underlying59 rfl (by kernel_rfl))
  have HM3f : y3.lies w.heap.size (W3.setCells (w.heap.size + 1) 0 [.slice y1.v.a y1.v.len y1.v.cap, .int .i64 y1.t.t.k, .slice y1.t.t.a y1.t.t.len y1.t.t.cap, .int .i64 y1.t.t.n, .int .i64 y1.t.t.s, .slice y2.v.a y2.v.len y2.v.cap, .int .i64 y2.t.t.k, .slice y2.t.t.a y2.t.t.len y2.t.t.cap, .int .i64 y2.t.t.n, .int .i64 y2.t.t.s, .slice y3.v.a y3.v.len y3.v.cap, .int .i64 y3.t.t.k, .slice y3.t.t.a y3.t.t.len y3.t.t.cap, .int .i64 y3.t.t.n, .int .i64 y3.t.t.s]) := ((HM3.out.upper ((upper_sets (w.heap.size + 1) [.slice y1.v.a y1.v.len y1.v.cap, .int .i64 y1.t.t.k, .slice y1.t.t.a y1.t.t.len y1.t.t.cap, .int .i64 y1.t.t.n, .int .i64 y1.t.t.s, .slice y2.v.a y2.v.len y2.v.cap, .int .i64 y2.t.t.k, .slice y2.t.t.a y2.t.t.len y2.t.t.cap, .int .i64 y2.t.t.n, .int .i64 y2.t.t.s, .slice y3.v.a y3.v.len y3.v.cap, .int .i64 y3.t.t.k, .slice y3.t.t.a y3.t.t.len y3.t.t.cap, .int .i64 y3.t.t.n, .int .i64 y3.t.t.s] 0 W3).mono (by omega))).base (by omega))
  have HM2f : y2.lies w.heap.size (W3.setCells (w.heap.size + 1) 0 [.slice y1.v.a y1.v.len y1.v.cap, .int .i64 y1.t.t.k, .slice y1.t.t.a y1.t.t.len y1.t.t.cap, .int .i64 y1.t.t.n, .int .i64 y1.t.t.s, .slice y2.v.a y2.v.len y2.v.cap, .int .i64 y2.t.t.k, .slice y2.t.t.a y2.t.t.len y2.t.t.cap, .int .i64 y2.t.t.n, .int .i64 y2.t.t.s, .slice y3.v.a y3.v.len y3.v.cap, .int .i64 y3.t.t.k, .slice y3.t.t.a y3.t.t.len y3.t.t.cap, .int .i64 y3.t.t.n, .int .i64 y3.t.t.s]) := ((HM2.out.upper ((upper_sets (w.heap.size + 1) [.slice y1.v.a y1.v.len y1.v.cap, .int .i64 y1.t.t.k, .slice y1.t.t.a y1.t.t.len y1.t.t.cap, .int .i64 y1.t.t.n, .int .i64 y1.t.t.s, .slice y2.v.a y2.v.len y2.v.cap, .int .i64 y2.t.t.k, .slice y2.t.t.a y2.t.t.len y2.t.t.cap, .int .i64 y2.t.t.n, .int .i64 y2.t.t.s, .slice y3.v.a y3.v.len y3.v.cap, .int .i64 y3.t.t.k, .slice y3.t.t.a y3.t.t.len y3.t.t.cap, .int .i64 y3.t.t.n, .int .i64 y3.t.t.s] 0 W3).mono (by omega))).base (by omega))
  have HM1f : y1.lies w.heap.size (W3.setCells (w.heap.size + 1) 0 [.slice y1.v.a y1.v.len y1.v.cap, .int .i64 y1.t.t.k, .slice y1.t.t.a y1.t.t.len y1.t.t.cap, .int .i64 y1.t.t.n, .int .i64 y1.t.t.s, .slice y2.v.a y2.v.len y2.v.cap, .int .i64 y2.t.t.k, .slice y2.t.t.a y2.t.t.len y2.t.t.cap, .int .i64 y2.t.t.n, .int .i64 y2.t.t.s, .slice y3.v.a y3.v.len y3.v.cap, .int .i64 y3.t.t.k, .slice y3.t.t.a y3.t.t.len y3.t.t.cap, .int .i64 y3.t.t.n, .int .i64 y3.t.t.s]) := ((HM1.out.upper ((upper_sets (w.heap.size + 1) [.slice y1.v.a y1.v.len y1.v.cap, .int .i64 y1.t.t.k, .slice y1.t.t.a y1.t.t.len y1.t.t.cap, .int .i64 y1.t.t.n, .int .i64 y1.t.t.s, .slice y2.v.a y2.v.len y2.v.cap, .int .i64 y2.t.t.k, .slice y2.t.t.a y2.t.t.len y2.t.t.cap, .int .i64 y2.t.t.n, .int .i64 y2.t.t.s, .slice y3.v.a y3.v.len y3.v.cap, .int .i64 y3.t.t.k, .slice y3.t.t.a y3.t.t.len y3.t.t.cap, .int .i64 y3.t.t.n, .int .i64 y3.t.t.s] 0 W3).mono (by omega))).base (by omega))
  have hbf : Below w.heap.size w (W3.setCells (w.heap.size + 1) 0 [.slice y1.v.a y1.v.len y1.v.cap, .int .i64 y1.t.t.k, .slice y1.t.t.a y1.t.t.len y1.t.t.cap, .int .i64 y1.t.t.n, .int .i64 y1.t.t.s, .slice y2.v.a y2.v.len y2.v.cap, .int .i64 y2.t.t.k, .slice y2.t.t.a y2.t.t.len y2.t.t.cap, .int .i64 y2.t.t.n, .int .i64 y2.t.t.s, .slice y3.v.a y3.v.len y3.v.cap, .int .i64 y3.t.t.k, .slice y3.t.t.a y3.t.t.len y3.t.t.cap, .int .i64 y3.t.t.n, .int .i64 y3.t.t.s]) := below_sets _ (by omega) _ _ _ HT.out.bl
  exact ⟨⟨y1, y2, y3⟩, rfl, ⟨HM1f, HM2f, HM3f⟩, ⟨HE1.out, HE2.out, HE3.out⟩, hbf⟩
theorem run_make_toExprS_of (n : Nat) (hn : n ≤ 1048576) (w : World) :
    (Instr.makeSlice 37 (.int .i64 (n : Int)) (.int .i64 (n : Int))).run Try.prog w = .ok (.slice (some ⟨w.heap.size, 0, none⟩) n n) (w.alloc (.cells (madeCells #[.int .i64 0, .int .i64 0, .slice none 0 0, .int .i64 0, .slice none 0 0, .int .i64 0, .int .i64 0, .slice none 0 0] (n * 8)) 39)) := by
  have hi0 : (Try.prog.info? 39).map (fun i => (i.zero, i.size, i.bytes)) = some (some (.agg #[.int .i64 0, .int .i64 0, .slice none 0 0, .int .i64 0, .slice none 0 0, .int .i64 0, .int .i64 0, .slice none 0 0]), 8, 112) := by kernel_rfl
  obtain ⟨i, hi, hzz⟩ := Option.map_eq_some_iff.1 hi0
  simp only [Prod.mk.injEq] at hzz
  obtain ⟨hz, hs, hb⟩ := hzz
  have hr := run_make (P := Try.prog) w 37 39 i _ Try.underlying37 hi hz .i64 .i64 n n (by omega) (Int.le_refl _) (by rw [hb]; omega) (by omega)
  simp only [Int.toNat_natCast, hs, Value.cells] at hr
  exact hr
def CptoExprS_of (w : World) (n : Nat) (kid : Nat → ET) (e : Ending) (w' : World) : Prop := ∃ (g : Nat) (k' : Nat → ET), e = .returned (.slice (some ⟨g, 0, none⟩) n n) ∧ KRow w.heap.size w' 8 (some ⟨g, 0, none⟩) n (fun i => (k' i).d.cells) ∧ (∀ i, i < n → (k' i).lies w.heap.size w') ∧ (∀ i, i < n → (kid i).same (k' i)) ∧ Below w.heap.size w w'
set_option maxHeartbeats 4000000 in
theorem toExprS_of (a : Option Addr) (cap n : Nat) (kid : Nat → ET) (w : World) (hn : n ≤ 1048576) (hR : KRow 0 w 8 a n (fun i => (kid i).d.cells))
    (IH : ∀ i, i < n → ∀ (W : World), Below w.heap.size w W → Calls Try.prog 23 #[.agg #[.int .i64 (kid i).d.k, .int .i64 (kid i).d.op, .slice (kid i).d.v.a (kid i).d.v.len (kid i).d.v.cap, .int .i64 (kid i).d.t.t.k, .slice (kid i).d.t.t.a (kid i).d.t.t.len (kid i).d.t.t.cap, .int .i64 (kid i).d.t.t.n, .int .i64 (kid i).d.t.t.s, .slice (kid i).d.ka (kid i).d.n (kid i).d.kc]] W fun e w' => ∃ y : ET, e = .returned (.agg #[.int .i64 y.d.k, .int .i64 y.d.op, .slice y.d.v.a y.d.v.len y.d.v.cap, .int .i64 y.d.t.t.k, .slice y.d.t.t.a y.d.t.t.len y.d.t.t.cap, .int .i64 y.d.t.t.n, .int .i64 y.d.t.t.s, .slice y.d.ka y.d.n y.d.kc]) ∧ y.lies W.heap.size w' ∧ (kid i).same y ∧ Below W.heap.size W w') :
    Calls Try.prog 54 #[.slice a n cap] w (CptoExprS_of w n kid) := by
  have hmk := run_make_toExprS_of n hn
  by_cases hn0 : n = 0
  · subst hn0
    have hmk0 : ∀ w, (Instr.makeSlice 37 (.int .i64 0) (.int .i64 0)).run Try.prog w = .ok (.slice (some ⟨w.heap.size, 0, none⟩) 0 0) (w.alloc (.cells (madeCells #[.int .i64 0, .int .i64 0, .slice none 0 0, .int .i64 0, .slice none 0 0, .int .i64 0, .int .i64 0, .slice none 0 0] 0) 39)) := fun w => by simpa using hmk w
    clear hmk hR IH hn
    go_enter Try.func54, Try.ntmps54
    go_wp2
    refine wp_loop_rounds 1 ?_
    rw [rounds_succ]
    go_wp2
    go_ret
    exact ⟨w.heap.size, kid, rfl, .inl rfl, fun i hi => absurd hi (Nat.not_lt_zero _), fun i hi => absurd hi (Nat.not_lt_zero _), bl_a _⟩
  obtain ⟨b, off, rfl, _, hlt, hc⟩ := hR.resolve_left hn0
  have HC : Hid (∀ i, i < n → ∀ c u, ((kid i).d.cells)[c]? = some u → w.cell? ⟨b, off + i * 8 + c, none⟩ = some u) := hc
  have HI : Hid (∀ i, i < n → ∀ (W : World), Below w.heap.size w W → Calls Try.prog 23 #[.agg #[.int .i64 (kid i).d.k, .int .i64 (kid i).d.op, .slice (kid i).d.v.a (kid i).d.v.len (kid i).d.v.cap, .int .i64 (kid i).d.t.t.k, .slice (kid i).d.t.t.a (kid i).d.t.t.len (kid i).d.t.t.cap, .int .i64 (kid i).d.t.t.n, .int .i64 (kid i).d.t.t.s, .slice (kid i).d.ka (kid i).d.n (kid i).d.kc]] W fun e w' => ∃ y : ET, e = .returned (.agg #[.int .i64 y.d.k, .int .i64 y.d.op, .slice y.d.v.a y.d.v.len y.d.v.cap, .int .i64 y.d.t.t.k, .slice y.d.t.t.a y.d.t.t.len y.d.t.t.cap, .int .i64 y.d.t.t.n, .int .i64 y.d.t.t.s, .slice y.d.ka y.d.n y.d.kc]) ∧ y.lies W.heap.size w' ∧ (kid i).same y ∧ Below W.heap.size W w') := IH
  have HTH : Hid ((w.alloc (.cells (madeCells #[.int .i64 0, .int .i64 0, .slice none 0 0, .int .i64 0, .slice none 0 0, .int .i64 0, .int .i64 0, .slice none 0 0] (n * 8)) 39)).there w.heap.size 0 (n * 8)) := fun j hj => by
    have hs := size_madeCells #[.int .i64 0, .int .i64 0, .slice none 0 0, .int .i64 0, .slice none 0 0, .int .i64 0, .int .i64 0, .slice none 0 0] (n * 8)
    have h := OB.new w (madeCells #[.int .i64 0, .int .i64 0, .slice none 0 0, .int .i64 0, .slice none 0 0, .int .i64 0, .int .i64 0, .slice none 0 0] (n * 8)) 39
    have h2 := h.2 (0 + j) _ (List.getElem?_eq_getElem (by rw [Array.length_toList, hs]; omega))
    exact ⟨by rw [h2.1]; rfl, h2.2⟩
  clear hR hc IH
  go_enter Try.func54, Try.ntmps54
  go_wp2
  go_loopw [4] (fun i wr => ∃ (k : Nat) (f : Nat → ET), k ≤ n ∧ i = .int .i64 k ∧ Hid (wr.there w.heap.size 0 (n * 8)) ∧ Hid (∀ j, j < k → wr.rangeAt w.heap.size (j * 8) ((f j).d.cells)) ∧ Hid (∀ j, j < k → (f j).lies (w.heap.size + 1) wr) ∧ Hid (∀ j, j < k → (kid j).same (f j)) ∧ Hid (Below w.heap.size w wr) ∧ Hid (w.heap.size < wr.heap.size))
    (fun i _ => n - (intOf i).toNat)
  case atStart => exact ⟨0, kid, Nat.zero_le _, rfl, HTH, fun j hj => absurd hj (Nat.not_lt_zero _), fun j hj => absurd hj (Nat.not_lt_zero _), fun j hj => absurd hj (Nat.not_lt_zero _), bl_a _, (show w.heap.size < _ by simp)⟩
  case round =>
    obtain ⟨k, f, hk, rfl, HX, HR, HL, HS, HB, HZ⟩ := hrel
    clear hmk HTH
    by_cases hlk : k < n
    · have hlkz : (k : Int) < (n : Int) := by omega
      have hcx : ∀ c u, ((kid k).d.cells)[c]? = some u → wr.cell? ⟨b, off + k * 8 + c, none⟩ = some u := fun c u hu => (HB.out.cell (p := ⟨b, off + k * 8 + c, none⟩) hlt).trans (HC.out k hlk c u hu)
      have Z := HI.out k hlk
      go_wp2_with (refine wpList_load_mid rfl 28 _ rfl b (off + k * 8) rfl [.int .i64 (kid k).d.k, .int .i64 (kid k).d.op, .slice (kid k).d.v.a (kid k).d.v.len (kid k).d.v.cap, .int .i64 (kid k).d.t.t.k, .slice (kid k).d.t.t.a (kid k).d.t.t.len (kid k).d.t.t.cap, .int .i64 (kid k).d.t.t.n, .int .i64 (kid k).d.t.t.s, .slice (kid k).d.ka (kid k).d.n (kid k).d.kc] _ hcx Try.underlying28 rfl (by kernel_rfl) ?_; try simp only [Act.put, List.setIfInBounds_toArray, List.set_cons_zero, List.set_cons_succ])
      refine (Z _ HB.out).mono ?_
      rintro e w2 ⟨y, rfl, hy, he, hb2⟩
      have hkz : k * 8 + 8 ≤ n * 8 := by rw [← Nat.succ_mul]; exact Nat.mul_le_mul_right _ hlk
      have hth : w2.there w.heap.size (k * 8) 8 := fun j hj => by
        have h := HX.out (k * 8 + j) (by omega)
        rw [Nat.zero_add] at h
        exact ⟨by rw [hb2.cell (p := ⟨w.heap.size, k * 8 + j, none⟩) HZ.out]; exact h.1, (hb2.frozen (p := ⟨w.heap.size, k * 8 + j, none⟩) HZ.out).trans h.2⟩
      have HN1 : Hid ((w2.setCells w.heap.size (k * 8) [.int .i64 y.d.k, .int .i64 y.d.op, .slice y.d.v.a y.d.v.len y.d.v.cap, .int .i64 y.d.t.t.k, .slice y.d.t.t.a y.d.t.t.len y.d.t.t.cap, .int .i64 y.d.t.t.n, .int .i64 y.d.t.t.s, .slice y.d.ka y.d.n y.d.kc]).there w.heap.size 0 (n * 8)) := World.there_setCells (fun j hj => ⟨by rw [hb2.cell (p := ⟨w.heap.size, 0 + j, none⟩) HZ.out]; exact (HX.out j hj).1, (hb2.frozen (p := ⟨w.heap.size, 0 + j, none⟩) HZ.out).trans (HX.out j hj).2⟩) _ _ _
      have hlen : ([.int .i64 y.d.k, .int .i64 y.d.op, .slice y.d.v.a y.d.v.len y.d.v.cap, .int .i64 y.d.t.t.k, .slice y.d.t.t.a y.d.t.t.len y.d.t.t.cap, .int .i64 y.d.t.t.n, .int .i64 y.d.t.t.s, .slice y.d.ka y.d.n y.d.kc] : List Value).length = 8 := rfl
      have HN2 : Hid (∀ j, j < k + 1 → (w2.setCells w.heap.size (k * 8) [.int .i64 y.d.k, .int .i64 y.d.op, .slice y.d.v.a y.d.v.len y.d.v.cap, .int .i64 y.d.t.t.k, .slice y.d.t.t.a y.d.t.t.len y.d.t.t.cap, .int .i64 y.d.t.t.n, .int .i64 y.d.t.t.s, .slice y.d.ka y.d.n y.d.kc]).rangeAt w.heap.size (j * 8) ((if j = k then y else f j).d.cells)) := fun j hj => by
        by_cases e : j = k
        · subst e
          rw [if_pos rfl]
          exact World.rangeAt_setCells_same w2 w.heap.size (j * 8) [.int .i64 y.d.k, .int .i64 y.d.op, .slice y.d.v.a y.d.v.len y.d.v.cap, .int .i64 y.d.t.t.k, .slice y.d.t.t.a y.d.t.t.len y.d.t.t.cap, .int .i64 y.d.t.t.n, .int .i64 y.d.t.t.s, .slice y.d.ka y.d.n y.d.kc] (by rw [hlen]; exact hth)
        · rw [if_neg e]
          have hjk : j * 8 + 8 ≤ k * 8 := by rw [← Nat.succ_mul]; exact Nat.mul_le_mul_right _ (by omega)
          refine World.rangeAt_setCells_apart (fun c u hu => (hb2.cell (p := ⟨w.heap.size, j * 8 + c, none⟩) HZ.out).trans (HR.out j (by omega) c u hu)) _ _ _ (.inr (.inl ?_))
          show j * 8 + 8 ≤ _
          exact hjk
      have hu3 : Upper (w.heap.size + 1) w2 (w2.setCells w.heap.size (k * 8) [.int .i64 y.d.k, .int .i64 y.d.op, .slice y.d.v.a y.d.v.len y.d.v.cap, .int .i64 y.d.t.t.k, .slice y.d.t.t.a y.d.t.t.len y.d.t.t.cap, .int .i64 y.d.t.t.n, .int .i64 y.d.t.t.s, .slice y.d.ka y.d.n y.d.kc]) := upper_sets _ _ _ _
      have HN3 : Hid (∀ j, j < k + 1 → (if j = k then y else f j).lies (w.heap.size + 1) (w2.setCells w.heap.size (k * 8) [.int .i64 y.d.k, .int .i64 y.d.op, .slice y.d.v.a y.d.v.len y.d.v.cap, .int .i64 y.d.t.t.k, .slice y.d.t.t.a y.d.t.t.len y.d.t.t.cap, .int .i64 y.d.t.t.n, .int .i64 y.d.t.t.s, .slice y.d.ka y.d.n y.d.kc])) := fun j hj => by
        by_cases e : j = k
        · rw [if_pos e]
          exact ET.lies.upper hu3 (ET.lies.base HZ.out (hy))
        · rw [if_neg e]
          exact ET.lies.upper hu3 (ET.lies.upper (Upper.of_below hb2) (HL.out j (by omega)))
      have HN4 : Hid (∀ j, j < k + 1 → (kid j).same (if j = k then y else f j)) := fun j hj => by
        by_cases e : j = k
        · rw [if_pos e, e]
          exact he
        · rw [if_neg e]
          exact HS.out j (by omega)
      have HN5 : Hid (Below w.heap.size w (w2.setCells w.heap.size (k * 8) [.int .i64 y.d.k, .int .i64 y.d.op, .slice y.d.v.a y.d.v.len y.d.v.cap, .int .i64 y.d.t.t.k, .slice y.d.t.t.a y.d.t.t.len y.d.t.t.cap, .int .i64 y.d.t.t.n, .int .i64 y.d.t.t.s, .slice y.d.ka y.d.n y.d.kc])) := below_sets _ (Nat.le_refl _) _ _ _ (bl_trans HB.out hb2)
      have HN6 : Hid (w.heap.size < (w2.setCells w.heap.size (k * 8) [.int .i64 y.d.k, .int .i64 y.d.op, .slice y.d.v.a y.d.v.len y.d.v.cap, .int .i64 y.d.t.t.k, .slice y.d.t.t.a y.d.t.t.len y.d.t.t.cap, .int .i64 y.d.t.t.n, .int .i64 y.d.t.t.s, .slice y.d.ka y.d.n y.d.kc]).heap.size) := Nat.lt_of_lt_of_le (Nat.lt_of_lt_of_le HZ.out hb2.size) hu3.size
      have one1 : (#[.int .i64 y.d.k, .int .i64 y.d.op, .slice y.d.v.a y.d.v.len y.d.v.cap, .int .i64 y.d.t.t.k, .slice y.d.t.t.a y.d.t.t.len y.d.t.t.cap, .int .i64 y.d.t.t.n, .int .i64 y.d.t.t.s, .slice y.d.ka y.d.n y.d.kc] : Array Value).all (·.oneCell') = true := all_oneCell_toArray (cs := [.int .i64 y.d.k, .int .i64 y.d.op, .slice y.d.v.a y.d.v.len y.d.v.cap, .int .i64 y.d.t.t.k, .slice y.d.t.t.a y.d.t.t.len y.d.t.t.cap, .int .i64 y.d.t.t.n, .int .i64 y.d.t.t.s, .slice y.d.ka y.d.n y.d.kc]) (by simp [Value.oneCell'])
      clear Z hcx hy he hb2 hu3 hlen hkz HX HR HL HS HB HZ
      go_upto_region 4 with (refine wpList_store_mid rfl 39 _ _ rfl w.heap.size (k * 8) #[.int .i64 y.d.k, .int .i64 y.d.op, .slice y.d.v.a y.d.v.len y.d.v.cap, .int .i64 y.d.t.t.k, .slice y.d.t.t.a y.d.t.t.len y.d.t.t.cap, .int .i64 y.d.t.t.n, .int .i64 y.d.t.t.s, .slice y.d.ka y.d.n y.d.kc] rfl rfl hth (by kernel_rfl) one1 ?_; try simp only [Act.put])
      clear hth one1
      go_wp2_with fail
      go_roundw
      case rel => exact ⟨k + 1, fun j => if j = k then y else f j, by omega, by go_num, HN1, HN2, HN3, HN4, HN5, HN6⟩
      case measure => simp [intOf]; omega
    · obtain rfl : k = n := by omega
      have hlkz : ¬ (k : Int) < (k : Int) := by omega
      go_wp2
      go_ret
      exact ⟨w.heap.size, f, rfl, .inr ⟨w.heap.size, 0, rfl, Nat.le_refl _, HZ.out, fun i hi c u hu => by rw [Nat.zero_add]; exact HR.out i hi c u hu⟩, fun i hi => ET.lies.base (Nat.le_succ _) (HL.out i hi), HS.out, HB.out⟩

set_option maxHeartbeats 2000000 in
theorem toExpr_to (e : ET) : ∀ (w : World), e.lies 0 w → Calls Try.prog 23 #[.agg #[.int .i64 e.d.k, .int .i64 e.d.op, .slice e.d.v.a e.d.v.len e.d.v.cap, .int .i64 e.d.t.t.k, .slice e.d.t.t.a e.d.t.t.len e.d.t.t.cap, .int .i64 e.d.t.t.n, .int .i64 e.d.t.t.s, .slice e.d.ka e.d.n e.d.kc]] w fun r w' => ∃ y : ET, r = .returned (.agg #[.int .i64 y.d.k, .int .i64 y.d.op, .slice y.d.v.a y.d.v.len y.d.v.cap, .int .i64 y.d.t.t.k, .slice y.d.t.t.a y.d.t.t.len y.d.t.t.cap, .int .i64 y.d.t.t.n, .int .i64 y.d.t.t.s, .slice y.d.ka y.d.n y.d.kc]) ∧ y.lies w.heap.size w' ∧ e.same y ∧ Below w.heap.size w w' := by
  induction e with
  | nil => exact fun _ h => False.elim h
  | mk d kid ih =>
    intro w h
    show Calls Try.prog 23 #[.agg #[.int .i64 d.k, .int .i64 d.op, .slice d.v.a d.v.len d.v.cap, .int .i64 d.t.t.k, .slice d.t.t.a d.t.t.len d.t.t.cap, .int .i64 d.t.t.n, .int .i64 d.t.t.s, .slice d.ka d.n d.kc]] w fun r w' => ∃ y : ET, r = .returned (.agg #[.int .i64 y.d.k, .int .i64 y.d.op, .slice y.d.v.a y.d.v.len y.d.v.cap, .int .i64 y.d.t.t.k, .slice y.d.t.t.a y.d.t.t.len y.d.t.t.cap, .int .i64 y.d.t.t.n, .int .i64 y.d.t.t.s, .slice y.d.ka y.d.n y.d.kc]) ∧ y.lies w.heap.size w' ∧ (ET.mk d kid).same y ∧ Below w.heap.size w w'
    obtain ⟨hv, ht, hf, hn, hR, hk⟩ := h
    have HZ1 : Hid (∀ (W : World), Below w.heap.size w W → Calls Try.prog 24 #[.slice d.v.a d.v.len d.v.cap] W fun e w' => ∃ y : SL, e = .returned (.slice y.a y.len y.cap) ∧ BsF W.heap.size w' y ∧ d.v.b = y.b ∧ Below W.heap.size W w') := fun W hb => toByteS_to d.v W (hv.upper (Upper.of_below hb))
    have HZ2 : Hid (∀ (W : World), Below w.heap.size w W → Calls Try.prog 53 #[.agg #[.int .i64 d.t.t.k, .slice d.t.t.a d.t.t.len d.t.t.cap, .int .i64 d.t.t.n, .int .i64 d.t.t.s]] W fun e w' => ∃ y : TB, e = .returned (.agg #[.int .i64 y.t.k, .slice y.t.a y.t.len y.t.cap, .int .i64 y.t.n, .int .i64 y.t.s]) ∧ BsF W.heap.size w' y.sl ∧ y.t.fits ∧ d.t.td = y.td ∧ Below W.heap.size W w') := fun W hb => toTerm_to d.t W (ht.upper (Upper.of_below hb)) hf
    have HZ3 : Hid (∀ (W : World), Below w.heap.size w W → Calls Try.prog 54 #[.slice d.ka d.n d.kc] W fun e w' => ∃ (g : Nat) (k' : Nat → ET), e = .returned (.slice (some ⟨g, 0, none⟩) d.n d.n) ∧ KRow W.heap.size w' 8 (some ⟨g, 0, none⟩) d.n (fun i => (k' i).d.cells) ∧ (∀ i, i < d.n → (k' i).lies W.heap.size w') ∧ (∀ i, i < d.n → (kid i).same (k' i)) ∧ Below W.heap.size W w') := fun W hb => toExprS_of d.ka d.kc d.n kid W hn (hR.upper (Upper.of_below hb)) fun i hi W' hW => ih i W' (ET.lies.upper (Upper.of_below (bl_trans hb hW)) (hk i hi))
    have HN : Hid (d.n ≤ 1048576) := hn
    clear hv ht hf hn hR hk ih
    go_enter Try.func23, Try.ntmps23
    have Z1 := HZ1.out
    go_wp2_with fail
    refine (Z1 _ (bl_alloc (bl_alloc (bl_a _) _) _)).mono ?_
    rintro e w1 ⟨y1, rfl, hy1, he1, hb1⟩
    have HT : Hid (TS w w1 [.int .i64 d.k, .int .i64 d.op, .slice d.v.a d.v.len d.v.cap, .int .i64 d.t.t.k, .slice d.t.t.a d.t.t.len d.t.t.cap, .int .i64 d.t.t.n, .int .i64 d.t.t.s, .slice d.ka d.n d.kc] [.int .i64 0, .int .i64 0, .slice none 0 0, .int .i64 0, .slice none 0 0, .int .i64 0, .int .i64 0, .slice none 0 0] [.int .i64 d.k, .int .i64 d.op, .slice none 0 0, .int .i64 0, .slice none 0 0, .int .i64 0, .int .i64 0, .slice none 0 0]) := (TS.new w #[.int .i64 d.k, .int .i64 d.op, .slice d.v.a d.v.len d.v.cap, .int .i64 d.t.t.k, .slice d.t.t.a d.t.t.len d.t.t.cap, .int .i64 d.t.t.n, .int .i64 d.t.t.s, .slice d.ka d.n d.kc] #[.int .i64 0, .int .i64 0, .slice none 0 0, .int .i64 0, .slice none 0 0, .int .i64 0, .int .i64 0, .slice none 0 0] #[.int .i64 d.k, .int .i64 d.op, .slice none 0 0, .int .i64 0, .slice none 0 0, .int .i64 0, .int .i64 0, .slice none 0 0] 28 39 39).below hb1
    have e3 : (w.heap.size + 1 + 1 + 1) ≤ (((w.alloc (.cells #[.int .i64 d.k, .int .i64 d.op, .slice d.v.a d.v.len d.v.cap, .int .i64 d.t.t.k, .slice d.t.t.a d.t.t.len d.t.t.cap, .int .i64 d.t.t.n, .int .i64 d.t.t.s, .slice d.ka d.n d.kc] 28)).alloc (.cells #[.int .i64 0, .int .i64 0, .slice none 0 0, .int .i64 0, .slice none 0 0, .int .i64 0, .int .i64 0, .slice none 0 0] 39)).alloc (.cells #[.int .i64 d.k, .int .i64 d.op, .slice none 0 0, .int .i64 0, .slice none 0 0, .int .i64 0, .int .i64 0, .slice none 0 0] 39)).heap.size := by simp
    have HM1 : Hid (BsF (w.heap.size + 1 + 1 + 1) (w1.setCell ⟨w.heap.size + 1 + 1, 2, none⟩ (.slice y1.a y1.len y1.cap)) y1) := (hy1.base e3).upper (upper_set (w := w1) (g := w.heap.size + 1 + 1) (i := 2) (.slice y1.a y1.len y1.cap))
    have HE1 : Hid (d.v.b = y1.b) := he1
    have HTn : Hid (TS w (w1.setCell ⟨w.heap.size + 1 + 1, 2, none⟩ (.slice y1.a y1.len y1.cap)) [.int .i64 d.k, .int .i64 d.op, .slice d.v.a d.v.len d.v.cap, .int .i64 d.t.t.k, .slice d.t.t.a d.t.t.len d.t.t.cap, .int .i64 d.t.t.n, .int .i64 d.t.t.s, .slice d.ka d.n d.kc] [.int .i64 0, .int .i64 0, .slice none 0 0, .int .i64 0, .slice none 0 0, .int .i64 0, .int .i64 0, .slice none 0 0] [.int .i64 d.k, .int .i64 d.op, .slice y1.a y1.len y1.cap, .int .i64 0, .slice none 0 0, .int .i64 0, .int .i64 0, .slice none 0 0]) := HT.out.set 2 _
    have st0 := (HT.out.ox.2 2 _ rfl).1
    have st1 := (HT.out.ox.2 2 _ rfl).2
    clear hy1 he1 hb1 e3 Z1 HZ1
    go_upto_region 5 with fail
    clear st0 st1 HT
    generalize (w1.setCell ⟨w.heap.size + 1 + 1, 2, none⟩ (.slice y1.a y1.len y1.cap)) = W1 at *
    have HT := HTn
    clear HTn
    have ld : W1.rangeAt w.heap.size 3 [.int .i64 d.t.t.k, .slice d.t.t.a d.t.t.len d.t.t.cap, .int .i64 d.t.t.n, .int .i64 d.t.t.s] := HT.out.px.range 3 _ rfl
    have Z2 := HZ2.out
    go_wp2_with (refine wpList_load_mid rfl 25 _ rfl w.heap.size 3 rfl [.int .i64 d.t.t.k, .slice d.t.t.a d.t.t.len d.t.t.cap, .int .i64 d.t.t.n, .int .i64 d.t.t.s] _ ld Try.underlying25 rfl (by kernel_rfl) ?_; try simp only [Act.put, List.setIfInBounds_toArray, List.set_cons_zero, List.set_cons_succ])
    refine (Z2 _ HT.out.bl).mono ?_
    rintro e w2 ⟨y2, rfl, hy2, hf2, he2, hb2⟩
    have e3 : (w.heap.size + 1 + 1 + 1) ≤ W1.heap.size := HT.out.base
    have HT : Hid (TS w w2 [.int .i64 d.k, .int .i64 d.op, .slice d.v.a d.v.len d.v.cap, .int .i64 d.t.t.k, .slice d.t.t.a d.t.t.len d.t.t.cap, .int .i64 d.t.t.n, .int .i64 d.t.t.s, .slice d.ka d.n d.kc] [.int .i64 0, .int .i64 0, .slice none 0 0, .int .i64 0, .slice none 0 0, .int .i64 0, .int .i64 0, .slice none 0 0] [.int .i64 d.k, .int .i64 d.op, .slice y1.a y1.len y1.cap, .int .i64 0, .slice none 0 0, .int .i64 0, .int .i64 0, .slice none 0 0]) := HT.out.below hb2
    have HM2 : Hid (BsF (w.heap.size + 1 + 1 + 1) (w2.setCells (w.heap.size + 1 + 1) 3 [.int .i64 y2.t.k, .slice y2.t.a y2.t.len y2.t.cap, .int .i64 y2.t.n, .int .i64 y2.t.s]) y2.sl) := (hy2.base e3).upper (upper_sets (w.heap.size + 1 + 1) [.int .i64 y2.t.k, .slice y2.t.a y2.t.len y2.t.cap, .int .i64 y2.t.n, .int .i64 y2.t.s] 3 w2)
    have HM1 : Hid (BsF (w.heap.size + 1 + 1 + 1) (w2.setCells (w.heap.size + 1 + 1) 3 [.int .i64 y2.t.k, .slice y2.t.a y2.t.len y2.t.cap, .int .i64 y2.t.n, .int .i64 y2.t.s]) y1) := (HM1.out.upper (Upper.of_below hb2)).upper (upper_sets (w.heap.size + 1 + 1) [.int .i64 y2.t.k, .slice y2.t.a y2.t.len y2.t.cap, .int .i64 y2.t.n, .int .i64 y2.t.s] 3 w2)
    have HE2 : Hid (d.t.td = y2.td) := he2
    have HF2 : Hid (y2.t.fits) := hf2
    have HTn : Hid (TS w (w2.setCells (w.heap.size + 1 + 1) 3 [.int .i64 y2.t.k, .slice y2.t.a y2.t.len y2.t.cap, .int .i64 y2.t.n, .int .i64 y2.t.s]) [.int .i64 d.k, .int .i64 d.op, .slice d.v.a d.v.len d.v.cap, .int .i64 d.t.t.k, .slice d.t.t.a d.t.t.len d.t.t.cap, .int .i64 d.t.t.n, .int .i64 d.t.t.s, .slice d.ka d.n d.kc] [.int .i64 0, .int .i64 0, .slice none 0 0, .int .i64 0, .slice none 0 0, .int .i64 0, .int .i64 0, .slice none 0 0] [.int .i64 d.k, .int .i64 d.op, .slice y1.a y1.len y1.cap, .int .i64 y2.t.k, .slice y2.t.a y2.t.len y2.t.cap, .int .i64 y2.t.n, .int .i64 y2.t.s, .slice none 0 0]) := HT.out.sets 3 _
    have st0 : w2.there (w.heap.size + 1 + 1) 3 4 := HT.out.ox.there 3 4 (by simp)
    have one1 : (#[.int .i64 y2.t.k, .slice y2.t.a y2.t.len y2.t.cap, .int .i64 y2.t.n, .int .i64 y2.t.s] : Array Value).all (·.oneCell') = true := all_oneCell_toArray (cs := [.int .i64 y2.t.k, .slice y2.t.a y2.t.len y2.t.cap, .int .i64 y2.t.n, .int .i64 y2.t.s]) (by simp [Value.oneCell'])
    clear hy2 he2 hf2 hb2 e3 Z2 HZ2 ld
    go_upto_region 6 with (refine wpList_store_mid rfl 36 _ _ rfl (w.heap.size + 1 + 1) 3 #[.int .i64 y2.t.k, .slice y2.t.a y2.t.len y2.t.cap, .int .i64 y2.t.n, .int .i64 y2.t.s] rfl rfl st0 (by kernel_rfl) one1 ?_; try simp only [Act.put])
    clear st0 one1 HT
    generalize (w2.setCells (w.heap.size + 1 + 1) 3 [.int .i64 y2.t.k, .slice y2.t.a y2.t.len y2.t.cap, .int .i64 y2.t.n, .int .i64 y2.t.s]) = W2 at *
    have HT := HTn
    clear HTn
    have ld := HT.out.px.2 7 _ rfl
    have Z3 := HZ3.out
    go_wp2_with fail
    refine (Z3 _ HT.out.bl).mono ?_
    rintro e w3 ⟨g3, k3, rfl, hy3, hz3, he3, hb3⟩
    have e3 : (w.heap.size + 1 + 1 + 1) ≤ W2.heap.size := HT.out.base
    have HT : Hid (TS w w3 [.int .i64 d.k, .int .i64 d.op, .slice d.v.a d.v.len d.v.cap, .int .i64 d.t.t.k, .slice d.t.t.a d.t.t.len d.t.t.cap, .int .i64 d.t.t.n, .int .i64 d.t.t.s, .slice d.ka d.n d.kc] [.int .i64 0, .int .i64 0, .slice none 0 0, .int .i64 0, .slice none 0 0, .int .i64 0, .int .i64 0, .slice none 0 0] [.int .i64 d.k, .int .i64 d.op, .slice y1.a y1.len y1.cap, .int .i64 y2.t.k, .slice y2.t.a y2.t.len y2.t.cap, .int .i64 y2.t.n, .int .i64 y2.t.s, .slice none 0 0]) := HT.out.below hb3
    have HM3 : Hid (KRow (w.heap.size + 1 + 1 + 1) (w3.setCell ⟨w.heap.size + 1 + 1, 7, none⟩ (.slice (some ⟨g3, 0, none⟩) d.n d.n)) 8 (some ⟨g3, 0, none⟩) d.n (fun i => (k3 i).d.cells)) := (hy3.base e3).upper (upper_set (w := w3) (g := w.heap.size + 1 + 1) (i := 7) (.slice (some ⟨g3, 0, none⟩) d.n d.n))
    have HL3 : Hid (∀ i, i < d.n → (k3 i).lies (w.heap.size + 1 + 1 + 1) (w3.setCell ⟨w.heap.size + 1 + 1, 7, none⟩ (.slice (some ⟨g3, 0, none⟩) d.n d.n))) := fun i hi => ET.lies.upper (upper_set (w := w3) (g := w.heap.size + 1 + 1) (i := 7) (.slice (some ⟨g3, 0, none⟩) d.n d.n)) ((fun i hi => ET.lies.base e3 (hz3 i hi)) i hi)
    have HM2 : Hid (BsF (w.heap.size + 1 + 1 + 1) (w3.setCell ⟨w.heap.size + 1 + 1, 7, none⟩ (.slice (some ⟨g3, 0, none⟩) d.n d.n)) y2.sl) := (HM2.out.upper (Upper.of_below hb3)).upper (upper_set (w := w3) (g := w.heap.size + 1 + 1) (i := 7) (.slice (some ⟨g3, 0, none⟩) d.n d.n))
    have HM1 : Hid (BsF (w.heap.size + 1 + 1 + 1) (w3.setCell ⟨w.heap.size + 1 + 1, 7, none⟩ (.slice (some ⟨g3, 0, none⟩) d.n d.n)) y1) := (HM1.out.upper (Upper.of_below hb3)).upper (upper_set (w := w3) (g := w.heap.size + 1 + 1) (i := 7) (.slice (some ⟨g3, 0, none⟩) d.n d.n))
    have HE3 : Hid (∀ i, i < d.n → (kid i).same (k3 i)) := he3
    have HTn : Hid (TS w (w3.setCell ⟨w.heap.size + 1 + 1, 7, none⟩ (.slice (some ⟨g3, 0, none⟩) d.n d.n)) [.int .i64 d.k, .int .i64 d.op, .slice d.v.a d.v.len d.v.cap, .int .i64 d.t.t.k, .slice d.t.t.a d.t.t.len d.t.t.cap, .int .i64 d.t.t.n, .int .i64 d.t.t.s, .slice d.ka d.n d.kc] [.int .i64 0, .int .i64 0, .slice none 0 0, .int .i64 0, .slice none 0 0, .int .i64 0, .int .i64 0, .slice none 0 0] [.int .i64 d.k, .int .i64 d.op, .slice y1.a y1.len y1.cap, .int .i64 y2.t.k, .slice y2.t.a y2.t.len y2.t.cap, .int .i64 y2.t.n, .int .i64 y2.t.s, .slice (some ⟨g3, 0, none⟩) d.n d.n]) := HT.out.set 7 _
    have st0 := (HT.out.ox.2 7 _ rfl).1
    have st1 := (HT.out.ox.2 7 _ rfl).2
    clear hy3 hz3 he3 hb3 e3 Z3 HZ3 ld
    go_upto_region 7 with fail
    clear st0 st1 HT
    generalize (w3.setCell ⟨w.heap.size + 1 + 1, 7, none⟩ (.slice (some ⟨g3, 0, none⟩) d.n d.n)) = W3 at *
    have HT := HTn
    clear HTn
    have ld : W3.rangeAt (w.heap.size + 1 + 1) 0 [.int .i64 d.k, .int .i64 d.op, .slice y1.a y1.len y1.cap, .int .i64 y2.t.k, .slice y2.t.a y2.t.len y2.t.cap, .int .i64 y2.t.n, .int .i64 y2.t.s, .slice (some ⟨g3, 0, none⟩) d.n d.n] := HT.out.ox.box.range 0 _ rfl
    have st0 : W3.there (w.heap.size + 1) 0 8 := HT.out.rz.there 0 8 (by simp)
    have one1 : (#[.int .i64 d.k, .int .i64 d.op, .slice y1.a y1.len y1.cap, .int .i64 y2.t.k, .slice y2.t.a y2.t.len y2.t.cap, .int .i64 y2.t.n, .int .i64 y2.t.s, .slice (some ⟨g3, 0, none⟩) d.n d.n] : Array Value).all (·.oneCell') = true := all_oneCell_toArray (cs := [.int .i64 d.k, .int .i64 d.op, .slice y1.a y1.len y1.cap, .int .i64 y2.t.k, .slice y2.t.a y2.t.len y2.t.cap, .int .i64 y2.t.n, .int .i64 y2.t.s, .slice (some ⟨g3, 0, none⟩) d.n d.n]) (by simp [Value.oneCell'])
    go_wp2_with (first | (refine wpList_load_mid rfl 39 _ rfl (w.heap.size + 1 + 1) 0 rfl [.int .i64 d.k, .int .i64 d.op, .slice y1.a y1.len y1.cap, .int .i64 y2.t.k, .slice y2.t.a y2.t.len y2.t.cap, .int .i64 y2.t.n, .int .i64 y2.t.s, .slice (some ⟨g3, 0, none⟩) d.n d.n] _ ld Try.underlying39 rfl (by kernel_rfl) ?_; try simp only [Act.put, List.setIfInBounds_toArray, List.set_cons_zero, List.set_cons_succ]) | (refine wpList_store_mid rfl 39 _ _ rfl (w.heap.size + 1) 0 #[.int .i64 d.k, .int .i64 d.op, .slice y1.a y1.len y1.cap, .int .i64 y2.t.k, .slice y2.t.a y2.t.len y2.t.cap, .int .i64 y2.t.n, .int .i64 y2.t.s, .slice (some ⟨g3, 0, none⟩) d.n d.n] rfl rfl st0 (by kernel_rfl) one1 ?_; try simp only [Act.put]))
    have hrd : (W3.setCells (w.heap.size + 1) 0 [.int .i64 d.k, .int .i64 d.op, .slice y1.a y1.len y1.cap, .int .i64 y2.t.k, .slice y2.t.a y2.t.len y2.t.cap, .int .i64 y2.t.n, .int .i64 y2.t.s, .slice (some ⟨g3, 0, none⟩) d.n d.n]).rangeAt (w.heap.size + 1) 0 [.int .i64 d.k, .int .i64 d.op, .slice y1.a y1.len y1.cap, .int .i64 y2.t.k, .slice y2.t.a y2.t.len y2.t.cap, .int .i64 y2.t.n, .int .i64 y2.t.s, .slice (some ⟨g3, 0, none⟩) d.n d.n] := World.rangeAt_setCells_same _ _ _ _ st0
    refine bodyPost_ret (v := .agg #[.int .i64 d.k, .int .i64 d.op, .slice y1.a y1.len y1.cap, .int .i64 y2.t.k, .slice y2.t.a y2.t.len y2.t.cap, .int .i64 y2.t.n, .int .i64 y2.t.s, .slice (some ⟨g3, 0, none⟩) d.n d.n]) ?hr rfl ?hp
    case hr => exact results_cell rfl rfl (run_loadVar_mid (P := Try.prog) _ (w.heap.size + 1) 0 39 [.int .i64 d.k, .int .i64 d.op, .slice y1.a y1.len y1.cap, .int .i64 y2.t.k, .slice y2.t.a y2.t.len y2.t.cap, .int .i64 y2.t.n, .int .i64 y2.t.s, .slice (some ⟨g3, 0, none⟩) d.n d.n] _ hrd Try.underlying39 rfl (by kernel_rfl))
    have HM3f : KRow w.heap.size (W3.setCells (w.heap.size + 1) 0 [.int .i64 d.k, .int .i64 d.op, .slice y1.a y1.len y1.cap, .int .i64 y2.t.k, .slice y2.t.a y2.t.len y2.t.cap, .int .i64 y2.t.n, .int .i64 y2.t.s, .slice (some ⟨g3, 0, none⟩) d.n d.n]) 8 (some ⟨g3, 0, none⟩) d.n (fun i => (k3 i).d.cells) := ((HM3.out.upper ((upper_sets (w.heap.size + 1) [.int .i64 d.k, .int .i64 d.op, .slice y1.a y1.len y1.cap, .int .i64 y2.t.k, .slice y2.t.a y2.t.len y2.t.cap, .int .i64 y2.t.n, .int .i64 y2.t.s, .slice (some ⟨g3, 0, none⟩) d.n d.n] 0 W3).mono (by omega))).base (by omega))
    have HL3f : ∀ i, i < d.n → (k3 i).lies w.heap.size (W3.setCells (w.heap.size + 1) 0 [.int .i64 d.k, .int .i64 d.op, .slice y1.a y1.len y1.cap, .int .i64 y2.t.k, .slice y2.t.a y2.t.len y2.t.cap, .int .i64 y2.t.n, .int .i64 y2.t.s, .slice (some ⟨g3, 0, none⟩) d.n d.n]) := (fun i hi => ET.lies.base (by omega) ((fun i hi => ET.lies.upper ((upper_sets (w.heap.size + 1) [.int .i64 d.k, .int .i64 d.op, .slice y1.a y1.len y1.cap, .int .i64 y2.t.k, .slice y2.t.a y2.t.len y2.t.cap, .int .i64 y2.t.n, .int .i64 y2.t.s, .slice (some ⟨g3, 0, none⟩) d.n d.n] 0 W3).mono (by omega)) (HL3.out i hi)) i hi))
    have HM2f : BsF w.heap.size (W3.setCells (w.heap.size + 1) 0 [.int .i64 d.k, .int .i64 d.op, .slice y1.a y1.len y1.cap, .int .i64 y2.t.k, .slice y2.t.a y2.t.len y2.t.cap, .int .i64 y2.t.n, .int .i64 y2.t.s, .slice (some ⟨g3, 0, none⟩) d.n d.n]) y2.sl := ((HM2.out.upper ((upper_sets (w.heap.size + 1) [.int .i64 d.k, .int .i64 d.op, .slice y1.a y1.len y1.cap, .int .i64 y2.t.k, .slice y2.t.a y2.t.len y2.t.cap, .int .i64 y2.t.n, .int .i64 y2.t.s, .slice (some ⟨g3, 0, none⟩) d.n d.n] 0 W3).mono (by omega))).base (by omega))
    have HM1f : BsF w.heap.size (W3.setCells (w.heap.size + 1) 0 [.int .i64 d.k, .int .i64 d.op, .slice y1.a y1.len y1.cap, .int .i64 y2.t.k, .slice y2.t.a y2.t.len y2.t.cap, .int .i64 y2.t.n, .int .i64 y2.t.s, .slice (some ⟨g3, 0, none⟩) d.n d.n]) y1 := ((HM1.out.upper ((upper_sets (w.heap.size + 1) [.int .i64 d.k, .int .i64 d.op, .slice y1.a y1.len y1.cap, .int .i64 y2.t.k, .slice y2.t.a y2.t.len y2.t.cap, .int .i64 y2.t.n, .int .i64 y2.t.s, .slice (some ⟨g3, 0, none⟩) d.n d.n] 0 W3).mono (by omega))).base (by omega))
    have hbf : Below w.heap.size w (W3.setCells (w.heap.size + 1) 0 [.int .i64 d.k, .int .i64 d.op, .slice y1.a y1.len y1.cap, .int .i64 y2.t.k, .slice y2.t.a y2.t.len y2.t.cap, .int .i64 y2.t.n, .int .i64 y2.t.s, .slice (some ⟨g3, 0, none⟩) d.n d.n]) := below_sets _ (by omega) _ _ _ HT.out.bl
    exact ⟨ET.mk ⟨d.k, d.op, y1, y2, some ⟨g3, 0, none⟩, d.n, d.n⟩ k3, rfl, ⟨HM1f, HM2f, HF2.out, HN.out, HM3f, HL3f⟩, ⟨rfl, rfl, HE1.out, HE2.out, rfl, HE3.out⟩, hbf⟩
end Go.Proofs.Ytpgbhkkdbkecoaa
