import Derived.Test.YtoloadogihbdeaaGreatMk01
import Derived.Deep.AppendLies
import Derived.Deep.MidRow
namespace Go.Proofs.YtoloadogihbdeaaGreat
open Go.RowKit Go.Deep
set_option maxHeartbeats 40000000
def OwnT (w : World) (g len : Nat) (bs : List Int) : Prop :=
 Bs w (some ⟨g, 0, none⟩) len bs ∧ g < w.heap.size ∧ (∀ i, i < len → ∃ v, w.cell? ⟨g, i, none⟩ = some (.int .u8 v)) ∧ (∀ i, i < len → w.frozen? ⟨g, i, none⟩ = false)
theorem toTerm_out (k n s : Int) (a : Option Addr) (len cap : Nat) (bs : List Int) (w : World) (hB : Bs w a len bs) :
 Calls Tryz.prog 80 #[.agg #[.int .i64 k, .slice a len cap, .int .i64 n, .int .i64 s]] w fun e w' =>
  e = .returned (.agg #[.int .i64 k, .slice (some ⟨w.heap.size + 1 + 1 + 1, 0, none⟩) len len, .int .i64 n, .int .i64 s]) ∧ ∃ o1 o2 o3, OwnT w' (w.heap.size + 1 + 1 + 1) len bs ∧ w' = (((w.alloc o1).alloc o2).alloc o3).alloc (.cells (cellsOf bs) 5) := by
 refine (toTerm_own k n s a len cap bs w hB).mono ?_
 obtain ⟨hl, h2, h3, _⟩ := hB
 rintro e w' ⟨rfl, o1, o2, o3, rfl⟩
 refine ⟨rfl, o1, o2, o3, ⟨?_, by simp, fun i hi => ?_, fun i hi => ?_⟩, rfl⟩
 · have := Bs.made (((w.alloc o1).alloc o2).alloc o3) bs len hl h2 h3
   simpa using this
 · have hi' : i < bs.length := by omega
   exact ⟨bs[i], by simp [go_sem, cellsOf, hi']⟩
 have hi' : i < bs.length := by omega
 simp [go_sem, cellsOf]
theorem toTerm_new (k n s : Int) (a : Option Addr) (len cap : Nat) (bs : List Int) (w : World) (hB : Bs w a len bs) :
 Calls Tryz.prog 80 #[.agg #[.int .i64 k, .slice a len cap, .int .i64 n, .int .i64 s]] w fun e w' =>
  ∃ g, e = .returned (.agg #[.int .i64 k, .slice (some ⟨g, 0, none⟩) len len, .int .i64 n, .int .i64 s]) ∧ OwnT w' g len bs ∧ w.heap.size ≤ g ∧ Bl w w' := by
 refine (toTerm_out k n s a len cap bs w hB).mono ?_
 rintro e w' ⟨rfl, o1, o2, o3, hO, rfl⟩
 exact ⟨_, rfl, hO, by omega, bl_alloc (bl_alloc (bl_alloc (bl_a _) _) _) _⟩
structure Tm where
 k : Int
 a : Option Addr
 len : Nat
 cap : Nat
 n : Int
 s : Int
def Tm.fits (t : Tm) : Prop := -9223372036854775808 ≤ t.n ∧ t.n ≤ 9223372036854775807 ∧ -9223372036854775808 ≤ t.s ∧ t.s ≤ 9223372036854775807
theorem isSubject_any (t : Tm) (bt : List Int) (w : World) (ft : t.fits) (hT : Bs w t.a t.len bt) :
 Calls Tryz.prog 165 #[.agg #[.int .i64 t.k, .slice t.a t.len t.cap, .int .i64 t.n, .int .i64 t.s]] w fun e w' => e = .returned (.bool (termOk t.k bt t.n t.s && decide (t.k ≤ 1))) ∧ Bl w w' := by
 have O1 := fun w h => implTermOk_any t.k t.n t.s t.a t.len t.cap bt w h ft.1 ft.2.1 ft.2.2.1 ft.2.2.2
 clear ft
 cases e1 : termOk t.k bt t.n t.s
 · rw [e1] at O1
   clear e1
   go_in
   go_wp2_with fail
   refine (O1 _ (hT.below (bl_a _))).mono ?_
   rintro e w1 ⟨rfl, hb1⟩
   go_wp2
   go_ret
   exact ⟨rfl, bl_trans (bl_a _) hb1⟩
 have hk : 0 ≤ t.k := by
  unfold termOk at e1
  split at e1
  · omega
  split at e1
  · omega
  split at e1
  · omega
  split at e1
  · omega
  cases e1
 rw [e1] at O1
 clear e1
 simp only [Bool.true_and]
 cases c0 : (t.k == 0)
 · have er : Hd (decide (t.k ≤ 1) = (t.k == 1)) := by
    show _ = _
    have : t.k ≠ 0 := by simpa using c0
    by_cases c1 : t.k = 1
    · simp [c1]
    have : ¬ t.k ≤ 1 := by omega
    simp [c1, this]
   go_in
   go_wp2_with fail
   refine (O1 _ (hT.below (bl_a _))).mono ?_
   rintro e w1 ⟨rfl, hb1⟩
   have hA := (At4.new w _ _ _ _ _).below hb1
   obtain ⟨x0, x1, x2, x3, x4⟩ := id hA
   go_wp2
   go_ret
   exact ⟨by rw [er.o]; rfl, bl_trans (bl_a _) hb1⟩
 have er : Hd (decide (t.k ≤ 1) = true) := by
  show _ = _
  have : t.k = 0 := by simpa using c0
  simp [this]
 go_in
 go_wp2_with fail
 refine (O1 _ (hT.below (bl_a _))).mono ?_
 rintro e w1 ⟨rfl, hb1⟩
 have hA := (At4.new w _ _ _ _ _).below hb1
 obtain ⟨x0, x1, x2, x3, x4⟩ := id hA
 go_wp2
 go_ret
 exact ⟨by rw [er.o]; rfl, bl_trans (bl_a _) hb1⟩
theorem isProperty_any (t : Tm) (bt : List Int) (w : World) (ft : t.fits) (hT : Bs w t.a t.len bt) :
 Calls Tryz.prog 166 #[.agg #[.int .i64 t.k, .slice t.a t.len t.cap, .int .i64 t.n, .int .i64 t.s]] w fun e w' => e = .returned (.bool (termOk t.k bt t.n t.s && (t.k == 0))) ∧ Bl w w' := by
 have O1 := fun w h => implTermOk_any t.k t.n t.s t.a t.len t.cap bt w h ft.1 ft.2.1 ft.2.2.1 ft.2.2.2
 clear ft
 cases e1 : termOk t.k bt t.n t.s
 · rw [e1] at O1
   clear e1
   go_in
   go_wp2_with fail
   refine (O1 _ (hT.below (bl_a _))).mono ?_
   rintro e w1 ⟨rfl, hb1⟩
   go_wp2
   go_ret
   exact ⟨rfl, bl_trans (bl_a _) hb1⟩
 rw [e1] at O1
 clear e1
 simp only [Bool.true_and]
 go_in
 go_wp2_with fail
 refine (O1 _ (hT.below (bl_a _))).mono ?_
 rintro e w1 ⟨rfl, hb1⟩
 have hA := (At4.new w _ _ _ _ _).below hb1
 obtain ⟨x0, x1, x2, x3, x4⟩ := id hA
 go_wp2
 go_ret
 exact ⟨rfl, bl_trans (bl_a _) hb1⟩
set_option maxRecDepth 100000
structure TB where
 t : Tm
 b : List Int
def TB.td (x : TB) : TD := ⟨x.t.k, x.b, x.t.n, x.t.s⟩
def enc4 (t : Tm) : List Value := [.int .i64 t.k, .slice t.a t.len t.cap, .int .i64 t.n, .int .i64 t.s]
def flat4 (l : List TB) : List Value := l.flatMap fun x => enc4 x.t
theorem flat4_len (l : List TB) : (flat4 l).length = l.length * 4 := by
 induction l with
 | nil => rfl
 | cons x l ih => simp only [flat4, List.flatMap_cons, List.length_append] at *; rw [ih]; simp [enc4]; omega
theorem flat4_get (l : List TB) (i c : Nat) (hi : i < l.length) (hc : c < 4) : (flat4 l)[i * 4 + c]? = (enc4 l[i].t)[c]? := by
 induction l generalizing i with
 | nil => cases hi
 | cons x l ih =>
  have e : flat4 (x :: l) = enc4 x.t ++ flat4 l := rfl
  rw [e]
  cases i with
  | zero => rw [List.getElem?_append_left (by simp [enc4]; omega)]; simp
  | succ i =>
   rw [List.getElem?_append_right (by simp [enc4]; omega)]
   have : (i + 1) * 4 + c - (enc4 x.t).length = i * 4 + c := by simp [enc4]; omega
   rw [this, ih i (by simpa using hi)]
   rfl
def TRow (w : World) (a : Option Addr) (l : List TB) : Prop := l = [] ∨ ∃ b off, a = some ⟨b, off, none⟩ ∧ b < w.heap.size ∧ ∀ j u, (flat4 l)[j]? = some u → w.cell? ⟨b, off + j, none⟩ = some u
theorem TRow.below {w w' : World} {a : Option Addr} {l : List TB} (h : TRow w a l) (hb : Bl w w') : TRow w' a l := by
 rcases h with h | ⟨b, off, ha, hl, hc⟩
 · exact .inl h
 exact .inr ⟨b, off, ha, Nat.lt_of_lt_of_le hl hb.size, fun j u hu => (hb.cell (p := ⟨b, off + j, none⟩) hl).trans (hc j u hu)⟩
theorem TRow.at {w : World} {b off : Nat} {l : List TB} (hc : ∀ j u, (flat4 l)[j]? = some u → w.cell? ⟨b, off + j, none⟩ = some u) (i : Nat) (hi : i < l.length) :
 w.cell? ⟨b, off + i * 4, none⟩ = some (.int .i64 l[i].t.k) ∧ w.cell? ⟨b, off + i * 4 + 1, none⟩ = some (.slice l[i].t.a l[i].t.len l[i].t.cap) ∧ w.cell? ⟨b, off + i * 4 + 2, none⟩ = some (.int .i64 l[i].t.n) ∧ w.cell? ⟨b, off + i * 4 + 3, none⟩ = some (.int .i64 l[i].t.s) := by
 refine ⟨hc (i * 4 + 0) _ ?_, ?_, ?_, ?_⟩
 · rw [flat4_get l i 0 hi (by omega)]; rfl
 · rw [Nat.add_assoc]; exact hc _ _ (by rw [flat4_get l i 1 hi (by omega)]; rfl)
 · rw [Nat.add_assoc]; exact hc _ _ (by rw [flat4_get l i 2 hi (by omega)]; rfl)
 rw [Nat.add_assoc]; exact hc _ _ (by rw [flat4_get l i 3 hi (by omega)]; rfl)
theorem Tryz.info35 : (Tryz.prog.info? 35).map (fun i => (i.zero, i.size, i.bytes)) = some (some (.agg #[.int .i64 0, .slice none 0 0, .int .i64 0, .int .i64 0]), 4, 48) := by kernel_rfl
structure SL where
 a : Option Addr
 len : Nat
 cap : Nat
 b : List Int
structure Upper (B : Nat) (w w' : World) : Prop where
 size : w.heap.size ≤ w'.heap.size
 block : ∀ b, B ≤ b → b < w.heap.size → w'.heap[b]? = w.heap[b]?
theorem Upper.cell {B : Nat} {w w' : World} (h : Upper B w w') {b o : Nat} (h1 : B ≤ b) (h2 : b < w.heap.size) : w'.cell? ⟨b, o, none⟩ = w.cell? ⟨b, o, none⟩ := World.cell?_of_block (w := w) (a := ⟨b, o, none⟩) (h.block b h1 h2)
theorem Upper.of_below {B : Nat} {w w' : World} (h : Bl w w') : Upper B w w' := ⟨h.size, fun b _ hb => h.block b hb⟩
theorem uB {B : Nat} {w w' : World} (h : Below w.heap.size w w') : Upper B w w' := Upper.of_below h
def BsF (B : Nat) (w : World) (x : SL) : Prop := Bs w x.a x.len x.b ∧ (x.len = 0 ∨ ∀ p, x.a = some p → B ≤ p.block)
theorem BsF.upper {B : Nat} {w w' : World} {x : SL} (h : BsF B w x) (hu : Upper B w w') : BsF B w' x := by
 obtain ⟨⟨h1, h2, h3, h4⟩, h5⟩ := h
 refine ⟨⟨h1, h2, h3, ?_⟩, h5⟩
 rcases h4 with h4 | ⟨b, off, ha, hlt, hc⟩
 · exact .inl h4
 by_cases h0 : x.len = 0
 · exact .inl h0
 have hB := (h5.resolve_left h0) _ ha
 exact .inr ⟨b, off, ha, Nat.lt_of_lt_of_le hlt hu.size, fun i hi => (hu.cell hB hlt).trans (hc i hi)⟩
theorem BsF.base {B B' : Nat} {w : World} {x : SL} (h : BsF B w x) (hB : B' ≤ B) : BsF B' w x := ⟨h.1, h.2.imp id fun h p hp => Nat.le_trans hB (h p hp)⟩
def TB.sl (x : TB) : SL := ⟨x.t.a, x.t.len, x.t.cap, x.b⟩
def KRow (B : Nat) (w : World) (sz : Nat) (a : Option Addr) (n : Nat) (C : Nat → List Value) : Prop :=
 n = 0 ∨ ∃ b off, a = some ⟨b, off, none⟩ ∧ B ≤ b ∧ b < w.heap.size ∧ ∀ i, i < n → ∀ c u, (C i)[c]? = some u → w.cell? ⟨b, off + i * sz + c, none⟩ = some u
theorem KRow.upper {B : Nat} {w w' : World} {sz : Nat} {a : Option Addr} {n : Nat} {C : Nat → List Value} (h : KRow B w sz a n C) (hu : Upper B w w') : KRow B w' sz a n C := by
 rcases h with h | ⟨b, off, ha, hB, hlt, hc⟩
 · exact .inl h
 exact .inr ⟨b, off, ha, hB, Nat.lt_of_lt_of_le hlt hu.size, fun i hi c u hcu => (hu.cell hB hlt).trans (hc i hi c u hcu)⟩
theorem KRow.base {B B' : Nat} {w : World} {sz : Nat} {a : Option Addr} {n : Nat} {C : Nat → List Value} (h : KRow B w sz a n C) (hB : B' ≤ B) : KRow B' w sz a n C := by
 rcases h with h | ⟨b, off, ha, hB', h⟩
 · exact .inl h
 exact .inr ⟨b, off, ha, Nat.le_trans hB hB', h⟩
def Cm (w : World) (x : SL) : Prop := x.len ≤ 9223372036854775807 ∧ (x.len ≤ 1048576 → Bs w x.a x.len x.b)
theorem Cm.below {w w' : World} {x : SL} (h : Cm w x) (hb : Bl w w') : Cm w' x := ⟨h.1, fun hs => (h.2 hs).below hb⟩
theorem Cm.bs {w : World} {x : SL} (h : Cm w x) (hs : x.len ≤ 1048576) : BsF 0 w x := ⟨h.2 hs, .inr fun _ _ => nZ⟩
structure IB where
 v : SL
 t : TB
def IB.cells (x : IB) : List Value := [.slice x.v.a x.v.len x.v.cap, .int .i64 x.t.t.k, .slice x.t.t.a x.t.t.len x.t.t.cap, .int .i64 x.t.t.n, .int .i64 x.t.t.s]
abbrev IB.cl (d : IB) : List Value := [.slice d.v.a d.v.len d.v.cap, .int .i64 d.t.t.k, .slice d.t.t.a d.t.t.len d.t.t.cap, .int .i64 d.t.t.n, .int .i64 d.t.t.s]
abbrev IB.ar (d : IB) : Array Value := #[.slice d.v.a d.v.len d.v.cap, .int .i64 d.t.t.k, .slice d.t.t.a d.t.t.len d.t.t.cap, .int .i64 d.t.t.n, .int .i64 d.t.t.s]
def IB.lies (B : Nat) (w : World) (x : IB) : Prop := BsF B w x.v ∧ BsF B w x.t.sl ∧ x.t.t.fits
def IB.came (w : World) (x : IB) : Prop := Cm w x.v ∧ Cm w x.t.sl ∧ x.t.t.fits
def IB.small (x : IB) : Prop := x.v.len ≤ 1048576 ∧ x.t.t.len ≤ 1048576
def IB.same (x y : IB) : Prop := x.v.b = y.v.b ∧ x.t.td = y.t.td
theorem IB.lies.upper {B : Nat} {w w' : World} {x : IB} (h : x.lies B w) (hu : Upper B w w') : x.lies B w' := ⟨h.1.upper hu, h.2.1.upper hu, h.2.2⟩
theorem IB.lies.base {B B' : Nat} {w : World} {x : IB} (h : x.lies B w) (hB : B' ≤ B) : x.lies B' w := ⟨h.1.base hB, h.2.1.base hB, h.2.2⟩
theorem IB.came.below {w w' : World} {x : IB} (h : x.came w) (hb : Bl w w') : x.came w' := ⟨h.1.below hb, h.2.1.below hb, h.2.2⟩
theorem IB.came.lies {w : World} {x : IB} (h : x.came w) (hs : x.small) : x.lies 0 w := ⟨h.1.bs hs.1, h.2.1.bs hs.2, h.2.2⟩
structure PB where
 s : IB
 p : IB
 o : IB
def PB.cells (x : PB) : List Value := [.slice x.s.v.a x.s.v.len x.s.v.cap, .int .i64 x.s.t.t.k, .slice x.s.t.t.a x.s.t.t.len x.s.t.t.cap, .int .i64 x.s.t.t.n, .int .i64 x.s.t.t.s,
 .slice x.p.v.a x.p.v.len x.p.v.cap, .int .i64 x.p.t.t.k, .slice x.p.t.t.a x.p.t.t.len x.p.t.t.cap, .int .i64 x.p.t.t.n, .int .i64 x.p.t.t.s,
 .slice x.o.v.a x.o.v.len x.o.v.cap, .int .i64 x.o.t.t.k, .slice x.o.t.t.a x.o.t.t.len x.o.t.t.cap, .int .i64 x.o.t.t.n, .int .i64 x.o.t.t.s]
abbrev PB.cl (d : PB) : List Value := [.slice d.s.v.a d.s.v.len d.s.v.cap, .int .i64 d.s.t.t.k, .slice d.s.t.t.a d.s.t.t.len d.s.t.t.cap, .int .i64 d.s.t.t.n, .int .i64 d.s.t.t.s, .slice d.p.v.a d.p.v.len d.p.v.cap, .int .i64 d.p.t.t.k, .slice d.p.t.t.a d.p.t.t.len d.p.t.t.cap, .int .i64 d.p.t.t.n, .int .i64 d.p.t.t.s, .slice d.o.v.a d.o.v.len d.o.v.cap, .int .i64 d.o.t.t.k, .slice d.o.t.t.a d.o.t.t.len d.o.t.t.cap, .int .i64 d.o.t.t.n, .int .i64 d.o.t.t.s]
abbrev PB.ar (d : PB) : Array Value := #[.slice d.s.v.a d.s.v.len d.s.v.cap, .int .i64 d.s.t.t.k, .slice d.s.t.t.a d.s.t.t.len d.s.t.t.cap, .int .i64 d.s.t.t.n, .int .i64 d.s.t.t.s, .slice d.p.v.a d.p.v.len d.p.v.cap, .int .i64 d.p.t.t.k, .slice d.p.t.t.a d.p.t.t.len d.p.t.t.cap, .int .i64 d.p.t.t.n, .int .i64 d.p.t.t.s, .slice d.o.v.a d.o.v.len d.o.v.cap, .int .i64 d.o.t.t.k, .slice d.o.t.t.a d.o.t.t.len d.o.t.t.cap, .int .i64 d.o.t.t.n, .int .i64 d.o.t.t.s]
def PB.lies (B : Nat) (w : World) (x : PB) : Prop := x.s.lies B w ∧ x.p.lies B w ∧ x.o.lies B w
def PB.came (w : World) (x : PB) : Prop := x.s.came w ∧ x.p.came w ∧ x.o.came w
def PB.small (x : PB) : Prop := x.s.small ∧ x.p.small ∧ x.o.small
def PB.same (x y : PB) : Prop := x.s.same y.s ∧ x.p.same y.p ∧ x.o.same y.o
theorem PB.lies.upper {B : Nat} {w w' : World} {x : PB} (h : x.lies B w) (hu : Upper B w w') : x.lies B w' := ⟨h.1.upper hu, h.2.1.upper hu, h.2.2.upper hu⟩
theorem PB.lies.base {B B' : Nat} {w : World} {x : PB} (h : x.lies B w) (hB : B' ≤ B) : x.lies B' w := ⟨h.1.base hB, h.2.1.base hB, h.2.2.base hB⟩
theorem PB.came.below {w w' : World} {x : PB} (h : x.came w) (hb : Bl w w') : x.came w' := ⟨h.1.below hb, h.2.1.below hb, h.2.2.below hb⟩
theorem PB.came.lies {w : World} {x : PB} (h : x.came w) (hs : x.small) : x.lies 0 w := ⟨IB.came.lies h.1 hs.1, IB.came.lies h.2.1 hs.2.1, IB.came.lies h.2.2 hs.2.2⟩
structure EN where
 k : Int
 op : Int
 v : SL
 t : TB
 ka : Option Addr
 kc : Nat
 n : Nat
def EN.cells (d : EN) : List Value := [.int .i64 d.k, .int .i64 d.op, .slice d.v.a d.v.len d.v.cap, .int .i64 d.t.t.k, .slice d.t.t.a d.t.t.len d.t.t.cap, .int .i64 d.t.t.n, .int .i64 d.t.t.s, .slice d.ka d.n d.kc]
abbrev EN.cl (d : EN) : List Value := [.int .i64 d.k, .int .i64 d.op, .slice d.v.a d.v.len d.v.cap, .int .i64 d.t.t.k, .slice d.t.t.a d.t.t.len d.t.t.cap, .int .i64 d.t.t.n, .int .i64 d.t.t.s, .slice d.ka d.n d.kc]
abbrev EN.ar (d : EN) : Array Value := #[.int .i64 d.k, .int .i64 d.op, .slice d.v.a d.v.len d.v.cap, .int .i64 d.t.t.k, .slice d.t.t.a d.t.t.len d.t.t.cap, .int .i64 d.t.t.n, .int .i64 d.t.t.s, .slice d.ka d.n d.kc]
abbrev EN.ck (d : EN) (k : Int) : List Value := [.int .i64 k, .int .i64 d.op, .slice d.v.a d.v.len d.v.cap, .int .i64 d.t.t.k, .slice d.t.t.a d.t.t.len d.t.t.cap, .int .i64 d.t.t.n, .int .i64 d.t.t.s, .slice d.ka d.n d.kc]
abbrev EN.ca (d : EN) (k : Int) : Array Value := #[.int .i64 k, .int .i64 d.op, .slice d.v.a d.v.len d.v.cap, .int .i64 d.t.t.k, .slice d.t.t.a d.t.t.len d.t.t.cap, .int .i64 d.t.t.n, .int .i64 d.t.t.s, .slice d.ka d.n d.kc]
abbrev uL (k : Int) (p : PB) (e : EN) (v : SL) (s t u : Value) : List Value := [.int .i64 k, .slice p.s.v.a p.s.v.len p.s.v.cap, .int .i64 p.s.t.t.k, .slice p.s.t.t.a p.s.t.t.len p.s.t.t.cap, .int .i64 p.s.t.t.n, .int .i64 p.s.t.t.s, .slice p.p.v.a p.p.v.len p.p.v.cap, .int .i64 p.p.t.t.k, .slice p.p.t.t.a p.p.t.t.len p.p.t.t.cap, .int .i64 p.p.t.t.n, .int .i64 p.p.t.t.s, .slice p.o.v.a p.o.v.len p.o.v.cap, .int .i64 p.o.t.t.k, .slice p.o.t.t.a p.o.t.t.len p.o.t.t.cap, .int .i64 p.o.t.t.n, .int .i64 p.o.t.t.s, .int .i64 e.k, .int .i64 e.op, .slice e.v.a e.v.len e.v.cap, .int .i64 e.t.t.k, .slice e.t.t.a e.t.t.len e.t.t.cap, .int .i64 e.t.t.n, .int .i64 e.t.t.s, .slice e.ka e.n e.kc, .slice v.a v.len v.cap, s, t, u]
abbrev uA (k : Int) (p : PB) (e : EN) (v : SL) (s t u : Value) : Array Value := #[.int .i64 k, .slice p.s.v.a p.s.v.len p.s.v.cap, .int .i64 p.s.t.t.k, .slice p.s.t.t.a p.s.t.t.len p.s.t.t.cap, .int .i64 p.s.t.t.n, .int .i64 p.s.t.t.s, .slice p.p.v.a p.p.v.len p.p.v.cap, .int .i64 p.p.t.t.k, .slice p.p.t.t.a p.p.t.t.len p.p.t.t.cap, .int .i64 p.p.t.t.n, .int .i64 p.p.t.t.s, .slice p.o.v.a p.o.v.len p.o.v.cap, .int .i64 p.o.t.t.k, .slice p.o.t.t.a p.o.t.t.len p.o.t.t.cap, .int .i64 p.o.t.t.n, .int .i64 p.o.t.t.s, .int .i64 e.k, .int .i64 e.op, .slice e.v.a e.v.len e.v.cap, .int .i64 e.t.t.k, .slice e.t.t.a e.t.t.len e.t.t.cap, .int .i64 e.t.t.n, .int .i64 e.t.t.s, .slice e.ka e.n e.kc, .slice v.a v.len v.cap, s, t, u]
abbrev eL (k o : Int) (v : SL) (t : TB) (s : Value) : List Value := [.int .i64 k, .int .i64 o, .slice v.a v.len v.cap, .int .i64 t.t.k, .slice t.t.a t.t.len t.t.cap, .int .i64 t.t.n, .int .i64 t.t.s, s]
abbrev eA (k o : Int) (v : SL) (t : TB) (s : Value) : Array Value := #[.int .i64 k, .int .i64 o, .slice v.a v.len v.cap, .int .i64 t.t.k, .slice t.t.a t.t.len t.t.cap, .int .i64 t.t.n, .int .i64 t.t.s, s]
abbrev pL (s p o : IB) : List Value := [.slice s.v.a s.v.len s.v.cap, .int .i64 s.t.t.k, .slice s.t.t.a s.t.t.len s.t.t.cap, .int .i64 s.t.t.n, .int .i64 s.t.t.s, .slice p.v.a p.v.len p.v.cap, .int .i64 p.t.t.k, .slice p.t.t.a p.t.t.len p.t.t.cap, .int .i64 p.t.t.n, .int .i64 p.t.t.s, .slice o.v.a o.v.len o.v.cap, .int .i64 o.t.t.k, .slice o.t.t.a o.t.t.len o.t.t.cap, .int .i64 o.t.t.n, .int .i64 o.t.t.s]
abbrev pA (s p o : IB) : Array Value := #[.slice s.v.a s.v.len s.v.cap, .int .i64 s.t.t.k, .slice s.t.t.a s.t.t.len s.t.t.cap, .int .i64 s.t.t.n, .int .i64 s.t.t.s, .slice p.v.a p.v.len p.v.cap, .int .i64 p.t.t.k, .slice p.t.t.a p.t.t.len p.t.t.cap, .int .i64 p.t.t.n, .int .i64 p.t.t.s, .slice o.v.a o.v.len o.v.cap, .int .i64 o.t.t.k, .slice o.t.t.a o.t.t.len o.t.t.cap, .int .i64 o.t.t.n, .int .i64 o.t.t.s]
def EN0 : EN := ⟨0, 0, ⟨none, 0, 0, []⟩, ⟨⟨0, none, 0, 0, 0, 0⟩, []⟩, none, 0, 0⟩
inductive ET where
 | nil
 | mk (d : EN) (kid : Nat → ET)
def ET.d : ET → EN
 | .nil => EN0
 | .mk d _ => d
def ET.lies (B : Nat) (w : World) : ET → Prop
 | .nil => False
 | .mk d kid => BsF B w d.v ∧ BsF B w d.t.sl ∧ d.t.t.fits ∧ d.n ≤ 1048576 ∧ KRow B w 8 d.ka d.n (fun i => (kid i).d.cells) ∧ ∀ i, i < d.n → (kid i).lies B w
def ET.came (w : World) : ET → Prop
 | .nil => False
 | .mk d kid => Cm w d.v ∧ Cm w d.t.sl ∧ d.t.t.fits ∧ d.n ≤ 9223372036854775807 ∧ KRow 0 w 8 d.ka d.n (fun i => (kid i).d.cells) ∧ ∀ i, i < d.n → (kid i).came w
def ET.small : ET → Prop
 | .nil => False
 | .mk d kid => d.v.len ≤ 1048576 ∧ d.t.t.len ≤ 1048576 ∧ d.n ≤ 1048576 ∧ ∀ i, i < d.n → (kid i).small
def ET.same : ET → ET → Prop
 | .mk d kid, .mk d' kid' => d.k = d'.k ∧ d.op = d'.op ∧ d.v.b = d'.v.b ∧ d.t.td = d'.t.td ∧ d.n = d'.n ∧ ∀ i, i < d.n → (kid i).same (kid' i)
 | _, _ => False
theorem ET.lies.upper {B : Nat} {w w' : World} (hu : Upper B w w') {e : ET} (h : e.lies B w) : e.lies B w' := by
 induction e with
 | nil => exact False.elim h
 | mk d kid ih => exact ⟨h.1.upper hu, h.2.1.upper hu, h.2.2.1, h.2.2.2.1, h.2.2.2.2.1.upper hu, fun i hi => ih i (h.2.2.2.2.2 i hi)⟩
theorem ET.lies.base {B B' : Nat} {w : World} (hB : B' ≤ B) {e : ET} (h : e.lies B w) : e.lies B' w := by
 induction e with
 | nil => exact False.elim h
 | mk d kid ih => exact ⟨h.1.base hB, h.2.1.base hB, h.2.2.1, h.2.2.2.1, h.2.2.2.2.1.base hB, fun i hi => ih i (h.2.2.2.2.2 i hi)⟩
theorem ET.came.below {w w' : World} (hb : Bl w w') {e : ET} (h : e.came w) : e.came w' := by
 induction e with
 | nil => exact False.elim h
 | mk d kid ih => exact ⟨h.1.below hb, h.2.1.below hb, h.2.2.1, h.2.2.2.1, h.2.2.2.2.1.upper (uB hb), fun i hi => ih i (h.2.2.2.2.2 i hi)⟩
theorem ET.came.lies {w : World} {e : ET} (h : e.came w) (hs : e.small) : e.lies 0 w := by
 induction e with
 | nil => exact False.elim h
 | mk d kid ih => exact ⟨h.1.bs hs.1, h.2.1.bs hs.2.1, h.2.2.1, hs.2.2.1, h.2.2.2.2.1, fun i hi => ih i (h.2.2.2.2.2 i hi) (hs.2.2.2 i hi)⟩
structure AN where
 k : Int
 pa : Option Addr
 pc : Nat
 pn : Nat
 pat : Nat → PB
 e : ET
 v : SL
 ta : Option Addr
 tc : Nat
 tb : List TB
 ka : Option Addr
 kc : Nat
 n : Nat
def AN.cells (d : AN) : List Value := [.int .i64 d.k, .slice d.pa d.pn d.pc, .int .i64 d.e.d.k, .int .i64 d.e.d.op, .slice d.e.d.v.a d.e.d.v.len d.e.d.v.cap, .int .i64 d.e.d.t.t.k, .slice d.e.d.t.t.a d.e.d.t.t.len d.e.d.t.t.cap, .int .i64 d.e.d.t.t.n, .int .i64 d.e.d.t.t.s, .slice d.e.d.ka d.e.d.n d.e.d.kc,
 .slice d.v.a d.v.len d.v.cap, .slice d.ta d.tb.length d.tc, .slice d.ka d.n d.kc]
abbrev AN.cl (d : AN) : List Value := [.int .i64 d.k, .slice d.pa d.pn d.pc, .int .i64 d.e.d.k, .int .i64 d.e.d.op, .slice d.e.d.v.a d.e.d.v.len d.e.d.v.cap, .int .i64 d.e.d.t.t.k, .slice d.e.d.t.t.a d.e.d.t.t.len d.e.d.t.t.cap, .int .i64 d.e.d.t.t.n, .int .i64 d.e.d.t.t.s, .slice d.e.d.ka d.e.d.n d.e.d.kc, .slice d.v.a d.v.len d.v.cap, .slice d.ta d.tb.length d.tc, .slice d.ka d.n d.kc]
abbrev AN.ar (d : AN) : Array Value := #[.int .i64 d.k, .slice d.pa d.pn d.pc, .int .i64 d.e.d.k, .int .i64 d.e.d.op, .slice d.e.d.v.a d.e.d.v.len d.e.d.v.cap, .int .i64 d.e.d.t.t.k, .slice d.e.d.t.t.a d.e.d.t.t.len d.e.d.t.t.cap, .int .i64 d.e.d.t.t.n, .int .i64 d.e.d.t.t.s, .slice d.e.d.ka d.e.d.n d.e.d.kc, .slice d.v.a d.v.len d.v.cap, .slice d.ta d.tb.length d.tc, .slice d.ka d.n d.kc]
abbrev gL (k : Int) (p : Value) (e : EN) (v : SL) (s t : Value) : List Value := [.int .i64 k, p, .int .i64 e.k, .int .i64 e.op, .slice e.v.a e.v.len e.v.cap, .int .i64 e.t.t.k, .slice e.t.t.a e.t.t.len e.t.t.cap, .int .i64 e.t.t.n, .int .i64 e.t.t.s, .slice e.ka e.n e.kc, .slice v.a v.len v.cap, s, t]
abbrev gA (k : Int) (p : Value) (e : EN) (v : SL) (s t : Value) : Array Value := #[.int .i64 k, p, .int .i64 e.k, .int .i64 e.op, .slice e.v.a e.v.len e.v.cap, .int .i64 e.t.t.k, .slice e.t.t.a e.t.t.len e.t.t.cap, .int .i64 e.t.t.n, .int .i64 e.t.t.s, .slice e.ka e.n e.kc, .slice v.a v.len v.cap, s, t]
abbrev fL (k : Int) (p v s t : Value) : List Value := [.int .i64 k, p, .int .i64 0, .int .i64 0, .slice none 0 0, .int .i64 0, .slice none 0 0, .int .i64 0, .int .i64 0, .slice none 0 0, v, s, t]
abbrev fA (k : Int) (p v s t : Value) : Array Value := #[.int .i64 k, p, .int .i64 0, .int .i64 0, .slice none 0 0, .int .i64 0, .slice none 0 0, .int .i64 0, .int .i64 0, .slice none 0 0, v, s, t]
def AN0 : AN := ⟨0, none, 0, 0, fun _ => ⟨⟨⟨none, 0, 0, []⟩, ⟨⟨0, none, 0, 0, 0, 0⟩, []⟩⟩, ⟨⟨none, 0, 0, []⟩, ⟨⟨0, none, 0, 0, 0, 0⟩, []⟩⟩, ⟨⟨none, 0, 0, []⟩, ⟨⟨0, none, 0, 0, 0, 0⟩, []⟩⟩⟩, .nil, ⟨none, 0, 0, []⟩, none, 0, [], none, 0, 0⟩
inductive AT where
 | nil
 | mk (d : AN) (kid : Nat → AT)
def AT.d : AT → AN
 | .nil => AN0
 | .mk d _ => d
def TRowF (B : Nat) (w : World) (a : Option Addr) (l : List TB) : Prop := TRow w a l ∧ (l = [] ∨ ∀ p, a = some p → B ≤ p.block) ∧ ∀ x ∈ l, BsF B w x.sl ∧ x.t.fits
theorem TRowF.upper {B : Nat} {w w' : World} {a : Option Addr} {l : List TB} (h : TRowF B w a l) (hu : Upper B w w') : TRowF B w' a l := by
 obtain ⟨h1, h2, h3⟩ := h
 refine ⟨?_, h2, fun x hx => ⟨(h3 x hx).1.upper hu, (h3 x hx).2⟩⟩
 rcases h1 with h1 | ⟨b, off, ha, hlt, hc⟩
 · exact .inl h1
 by_cases h0 : l = []
 · exact .inl h0
 have hB := (h2.resolve_left h0) _ ha
 exact .inr ⟨b, off, ha, Nat.lt_of_lt_of_le hlt hu.size, fun j u hju => (hu.cell hB hlt).trans (hc j u hju)⟩
theorem TRowF.base {B B' : Nat} {w : World} {a : Option Addr} {l : List TB} (h : TRowF B w a l) (hB : B' ≤ B) : TRowF B' w a l := ⟨h.1, h.2.1.imp id fun h p hp => Nat.le_trans hB (h p hp), fun x hx => ⟨(h.2.2 x hx).1.base hB, (h.2.2 x hx).2⟩⟩
def AT.lies (B : Nat) (w : World) : AT → Prop
 | .nil => False
 | .mk d kid => KRow B w 15 d.pa d.pn (fun i => (d.pat i).cells) ∧ (∀ i, i < d.pn → (d.pat i).lies B w) ∧ d.pn ≤ 1048576 ∧ d.e.lies B w ∧ BsF B w d.v ∧ TRowF B w d.ta d.tb ∧ d.tb.length ≤ 1048576 ∧ d.n ≤ 1048576 ∧ KRow B w 13 d.ka d.n (fun i => (kid i).d.cells) ∧ ∀ i, i < d.n → (kid i).lies B w
def TCm (w : World) (a : Option Addr) (l : List TB) : Prop := TRow w a l ∧ l.length ≤ 9223372036854775807 ∧ ∀ x ∈ l, Cm w x.sl ∧ x.t.fits
theorem TCm.below {w w' : World} {a : Option Addr} {l : List TB} (h : TCm w a l) (hb : Bl w w') : TCm w' a l := ⟨h.1.below hb, h.2.1, fun x hx => ⟨(h.2.2 x hx).1.below hb, (h.2.2 x hx).2⟩⟩
theorem TCm.lies {w : World} {a : Option Addr} {l : List TB} (h : TCm w a l) (hs : ∀ x ∈ l, x.t.len ≤ 1048576) : TRowF 0 w a l := ⟨h.1, .inr fun _ _ => nZ, fun x hx => ⟨(h.2.2 x hx).1.bs (hs x hx), (h.2.2 x hx).2⟩⟩
def AT.same : AT → AT → Prop
 | .mk d kid, .mk d' kid' => d.k = d'.k ∧ d.pn = d'.pn ∧ (∀ i, i < d.pn → (d.pat i).same (d'.pat i)) ∧ d.e.same d'.e ∧ d.v.b = d'.v.b ∧ d.tb.map TB.td = d'.tb.map TB.td ∧ d.n = d'.n ∧ ∀ i, i < d.n → (kid i).same (kid' i)
 | _, _ => False
theorem AT.lies.upper {B : Nat} {w w' : World} (hu : Upper B w w') {e : AT} (h : e.lies B w) : e.lies B w' := by
 induction e with
 | nil => exact False.elim h
 | mk d kid ih =>
  obtain ⟨h1, h2, h3, h4, h5, h6, h7, h8, h9, h10⟩ := h
  exact ⟨h1.upper hu, fun i hi => (h2 i hi).upper hu, h3, ET.lies.upper hu h4, h5.upper hu, h6.upper hu, h7, h8, h9.upper hu, fun i hi => ih i (h10 i hi)⟩
theorem AT.lies.base {B B' : Nat} {w : World} (hB : B' ≤ B) {e : AT} (h : e.lies B w) : e.lies B' w := by
 induction e with
 | nil => exact False.elim h
 | mk d kid ih =>
  obtain ⟨h1, h2, h3, h4, h5, h6, h7, h8, h9, h10⟩ := h
  exact ⟨h1.base hB, fun i hi => (h2 i hi).base hB, h3, ET.lies.base hB h4, h5.base hB, h6.base hB, h7, h8, h9.base hB, fun i hi => ih i (h10 i hi)⟩
structure PN where
 k : Int
 ord : Int
 p : PB
 e : ET
 v : SL
 ta : Option Addr
 tc : Nat
 tb : List TB
 ka : Option Addr
 kc : Nat
 n : Nat
def PN.cells (d : PN) : List Value := [.int .i64 d.k, .int .i64 d.ord, .slice d.p.s.v.a d.p.s.v.len d.p.s.v.cap, .int .i64 d.p.s.t.t.k, .slice d.p.s.t.t.a d.p.s.t.t.len d.p.s.t.t.cap, .int .i64 d.p.s.t.t.n, .int .i64 d.p.s.t.t.s,
 .slice d.p.p.v.a d.p.p.v.len d.p.p.v.cap, .int .i64 d.p.p.t.t.k, .slice d.p.p.t.t.a d.p.p.t.t.len d.p.p.t.t.cap, .int .i64 d.p.p.t.t.n, .int .i64 d.p.p.t.t.s,
 .slice d.p.o.v.a d.p.o.v.len d.p.o.v.cap, .int .i64 d.p.o.t.t.k, .slice d.p.o.t.t.a d.p.o.t.t.len d.p.o.t.t.cap, .int .i64 d.p.o.t.t.n, .int .i64 d.p.o.t.t.s,
 .int .i64 d.e.d.k, .int .i64 d.e.d.op, .slice d.e.d.v.a d.e.d.v.len d.e.d.v.cap, .int .i64 d.e.d.t.t.k, .slice d.e.d.t.t.a d.e.d.t.t.len d.e.d.t.t.cap, .int .i64 d.e.d.t.t.n, .int .i64 d.e.d.t.t.s, .slice d.e.d.ka d.e.d.n d.e.d.kc,
 .slice d.v.a d.v.len d.v.cap, .slice d.ta d.tb.length d.tc, .slice d.ka d.n d.kc]
abbrev PN.cl (d : PN) : List Value := [.int .i64 d.k, .int .i64 d.ord, .slice d.p.s.v.a d.p.s.v.len d.p.s.v.cap, .int .i64 d.p.s.t.t.k, .slice d.p.s.t.t.a d.p.s.t.t.len d.p.s.t.t.cap, .int .i64 d.p.s.t.t.n, .int .i64 d.p.s.t.t.s, .slice d.p.p.v.a d.p.p.v.len d.p.p.v.cap, .int .i64 d.p.p.t.t.k, .slice d.p.p.t.t.a d.p.p.t.t.len d.p.p.t.t.cap, .int .i64 d.p.p.t.t.n, .int .i64 d.p.p.t.t.s, .slice d.p.o.v.a d.p.o.v.len d.p.o.v.cap, .int .i64 d.p.o.t.t.k, .slice d.p.o.t.t.a d.p.o.t.t.len d.p.o.t.t.cap, .int .i64 d.p.o.t.t.n, .int .i64 d.p.o.t.t.s, .int .i64 d.e.d.k, .int .i64 d.e.d.op, .slice d.e.d.v.a d.e.d.v.len d.e.d.v.cap, .int .i64 d.e.d.t.t.k, .slice d.e.d.t.t.a d.e.d.t.t.len d.e.d.t.t.cap, .int .i64 d.e.d.t.t.n, .int .i64 d.e.d.t.t.s, .slice d.e.d.ka d.e.d.n d.e.d.kc, .slice d.v.a d.v.len d.v.cap, .slice d.ta d.tb.length d.tc, .slice d.ka d.n d.kc]
abbrev PN.ar (d : PN) : Array Value := #[.int .i64 d.k, .int .i64 d.ord, .slice d.p.s.v.a d.p.s.v.len d.p.s.v.cap, .int .i64 d.p.s.t.t.k, .slice d.p.s.t.t.a d.p.s.t.t.len d.p.s.t.t.cap, .int .i64 d.p.s.t.t.n, .int .i64 d.p.s.t.t.s, .slice d.p.p.v.a d.p.p.v.len d.p.p.v.cap, .int .i64 d.p.p.t.t.k, .slice d.p.p.t.t.a d.p.p.t.t.len d.p.p.t.t.cap, .int .i64 d.p.p.t.t.n, .int .i64 d.p.p.t.t.s, .slice d.p.o.v.a d.p.o.v.len d.p.o.v.cap, .int .i64 d.p.o.t.t.k, .slice d.p.o.t.t.a d.p.o.t.t.len d.p.o.t.t.cap, .int .i64 d.p.o.t.t.n, .int .i64 d.p.o.t.t.s, .int .i64 d.e.d.k, .int .i64 d.e.d.op, .slice d.e.d.v.a d.e.d.v.len d.e.d.v.cap, .int .i64 d.e.d.t.t.k, .slice d.e.d.t.t.a d.e.d.t.t.len d.e.d.t.t.cap, .int .i64 d.e.d.t.t.n, .int .i64 d.e.d.t.t.s, .slice d.e.d.ka d.e.d.n d.e.d.kc, .slice d.v.a d.v.len d.v.cap, .slice d.ta d.tb.length d.tc, .slice d.ka d.n d.kc]
abbrev PN.ck (d : PN) (k : Int) : List Value := [.int .i64 k, .int .i64 d.ord, .slice d.p.s.v.a d.p.s.v.len d.p.s.v.cap, .int .i64 d.p.s.t.t.k, .slice d.p.s.t.t.a d.p.s.t.t.len d.p.s.t.t.cap, .int .i64 d.p.s.t.t.n, .int .i64 d.p.s.t.t.s, .slice d.p.p.v.a d.p.p.v.len d.p.p.v.cap, .int .i64 d.p.p.t.t.k, .slice d.p.p.t.t.a d.p.p.t.t.len d.p.p.t.t.cap, .int .i64 d.p.p.t.t.n, .int .i64 d.p.p.t.t.s, .slice d.p.o.v.a d.p.o.v.len d.p.o.v.cap, .int .i64 d.p.o.t.t.k, .slice d.p.o.t.t.a d.p.o.t.t.len d.p.o.t.t.cap, .int .i64 d.p.o.t.t.n, .int .i64 d.p.o.t.t.s, .int .i64 d.e.d.k, .int .i64 d.e.d.op, .slice d.e.d.v.a d.e.d.v.len d.e.d.v.cap, .int .i64 d.e.d.t.t.k, .slice d.e.d.t.t.a d.e.d.t.t.len d.e.d.t.t.cap, .int .i64 d.e.d.t.t.n, .int .i64 d.e.d.t.t.s, .slice d.e.d.ka d.e.d.n d.e.d.kc, .slice d.v.a d.v.len d.v.cap, .slice d.ta d.tb.length d.tc, .slice d.ka d.n d.kc]
abbrev PN.ca (d : PN) (k : Int) : Array Value := #[.int .i64 k, .int .i64 d.ord, .slice d.p.s.v.a d.p.s.v.len d.p.s.v.cap, .int .i64 d.p.s.t.t.k, .slice d.p.s.t.t.a d.p.s.t.t.len d.p.s.t.t.cap, .int .i64 d.p.s.t.t.n, .int .i64 d.p.s.t.t.s, .slice d.p.p.v.a d.p.p.v.len d.p.p.v.cap, .int .i64 d.p.p.t.t.k, .slice d.p.p.t.t.a d.p.p.t.t.len d.p.p.t.t.cap, .int .i64 d.p.p.t.t.n, .int .i64 d.p.p.t.t.s, .slice d.p.o.v.a d.p.o.v.len d.p.o.v.cap, .int .i64 d.p.o.t.t.k, .slice d.p.o.t.t.a d.p.o.t.t.len d.p.o.t.t.cap, .int .i64 d.p.o.t.t.n, .int .i64 d.p.o.t.t.s, .int .i64 d.e.d.k, .int .i64 d.e.d.op, .slice d.e.d.v.a d.e.d.v.len d.e.d.v.cap, .int .i64 d.e.d.t.t.k, .slice d.e.d.t.t.a d.e.d.t.t.len d.e.d.t.t.cap, .int .i64 d.e.d.t.t.n, .int .i64 d.e.d.t.t.s, .slice d.e.d.ka d.e.d.n d.e.d.kc, .slice d.v.a d.v.len d.v.cap, .slice d.ta d.tb.length d.tc, .slice d.ka d.n d.kc]
abbrev wL (k o : Int) (p : PB) (e : EN) (v : SL) (s t : Value) : List Value := [.int .i64 k, .int .i64 o, .slice p.s.v.a p.s.v.len p.s.v.cap, .int .i64 p.s.t.t.k, .slice p.s.t.t.a p.s.t.t.len p.s.t.t.cap, .int .i64 p.s.t.t.n, .int .i64 p.s.t.t.s, .slice p.p.v.a p.p.v.len p.p.v.cap, .int .i64 p.p.t.t.k, .slice p.p.t.t.a p.p.t.t.len p.p.t.t.cap, .int .i64 p.p.t.t.n, .int .i64 p.p.t.t.s, .slice p.o.v.a p.o.v.len p.o.v.cap, .int .i64 p.o.t.t.k, .slice p.o.t.t.a p.o.t.t.len p.o.t.t.cap, .int .i64 p.o.t.t.n, .int .i64 p.o.t.t.s, .int .i64 e.k, .int .i64 e.op, .slice e.v.a e.v.len e.v.cap, .int .i64 e.t.t.k, .slice e.t.t.a e.t.t.len e.t.t.cap, .int .i64 e.t.t.n, .int .i64 e.t.t.s, .slice e.ka e.n e.kc, .slice v.a v.len v.cap, s, t]
abbrev wA (k o : Int) (p : PB) (e : EN) (v : SL) (s t : Value) : Array Value := #[.int .i64 k, .int .i64 o, .slice p.s.v.a p.s.v.len p.s.v.cap, .int .i64 p.s.t.t.k, .slice p.s.t.t.a p.s.t.t.len p.s.t.t.cap, .int .i64 p.s.t.t.n, .int .i64 p.s.t.t.s, .slice p.p.v.a p.p.v.len p.p.v.cap, .int .i64 p.p.t.t.k, .slice p.p.t.t.a p.p.t.t.len p.p.t.t.cap, .int .i64 p.p.t.t.n, .int .i64 p.p.t.t.s, .slice p.o.v.a p.o.v.len p.o.v.cap, .int .i64 p.o.t.t.k, .slice p.o.t.t.a p.o.t.t.len p.o.t.t.cap, .int .i64 p.o.t.t.n, .int .i64 p.o.t.t.s, .int .i64 e.k, .int .i64 e.op, .slice e.v.a e.v.len e.v.cap, .int .i64 e.t.t.k, .slice e.t.t.a e.t.t.len e.t.t.cap, .int .i64 e.t.t.n, .int .i64 e.t.t.s, .slice e.ka e.n e.kc, .slice v.a v.len v.cap, s, t]
def PN0 : PN := ⟨0, 0, ⟨⟨⟨none, 0, 0, []⟩, ⟨⟨0, none, 0, 0, 0, 0⟩, []⟩⟩, ⟨⟨none, 0, 0, []⟩, ⟨⟨0, none, 0, 0, 0, 0⟩, []⟩⟩, ⟨⟨none, 0, 0, []⟩, ⟨⟨0, none, 0, 0, 0, 0⟩, []⟩⟩⟩, .nil, ⟨none, 0, 0, []⟩, none, 0, [], none, 0, 0⟩
inductive PT where
 | nil
 | mk (d : PN) (kid : Nat → PT)
def PT.d : PT → PN
 | .nil => PN0
 | .mk d _ => d
def PT.lies (B : Nat) (w : World) : PT → Prop
 | .nil => False
 | .mk d kid => d.p.lies B w ∧ d.e.lies B w ∧ BsF B w d.v ∧ TRowF B w d.ta d.tb ∧ d.tb.length ≤ 1048576 ∧ d.n ≤ 1048576 ∧ KRow B w 28 d.ka d.n (fun i => (kid i).d.cells) ∧ ∀ i, i < d.n → (kid i).lies B w
def PT.came (w : World) : PT → Prop
 | .nil => False
 | .mk d kid => d.p.came w ∧ d.e.came w ∧ Cm w d.v ∧ TCm w d.ta d.tb ∧ d.n ≤ 9223372036854775807 ∧ KRow 0 w 28 d.ka d.n (fun i => (kid i).d.cells) ∧ ∀ i, i < d.n → (kid i).came w
def PT.small : PT → Prop
 | .nil => False
 | .mk d kid => d.p.small ∧ d.e.small ∧ d.v.len ≤ 1048576 ∧ (d.tb.length ≤ 1048576 ∧ ∀ x ∈ d.tb, x.t.len ≤ 1048576) ∧ d.n ≤ 1048576 ∧ ∀ i, i < d.n → (kid i).small
def PT.same : PT → PT → Prop
 | .mk d kid, .mk d' kid' => d.k = d'.k ∧ d.ord = d'.ord ∧ d.p.same d'.p ∧ d.e.same d'.e ∧ d.v.b = d'.v.b ∧ d.tb.map TB.td = d'.tb.map TB.td ∧ d.n = d'.n ∧ ∀ i, i < d.n → (kid i).same (kid' i)
 | _, _ => False
theorem PT.lies.upper {B : Nat} {w w' : World} (hu : Upper B w w') {e : PT} (h : e.lies B w) : e.lies B w' := by
 induction e with
 | nil => exact False.elim h
 | mk d kid ih =>
  obtain ⟨h2, h4, h5, h6, h7, h8, h9, h10⟩ := h
  exact ⟨h2.upper hu, ET.lies.upper hu h4, h5.upper hu, h6.upper hu, h7, h8, h9.upper hu, fun i hi => ih i (h10 i hi)⟩
theorem PT.lies.base {B B' : Nat} {w : World} (hB : B' ≤ B) {e : PT} (h : e.lies B w) : e.lies B' w := by
 induction e with
 | nil => exact False.elim h
 | mk d kid ih =>
  obtain ⟨h2, h4, h5, h6, h7, h8, h9, h10⟩ := h
  exact ⟨h2.base hB, ET.lies.base hB h4, h5.base hB, h6.base hB, h7, h8, h9.base hB, fun i hi => ih i (h10 i hi)⟩
theorem PT.came.below {w w' : World} (hb : Bl w w') {e : PT} (h : e.came w) : e.came w' := by
 induction e with
 | nil => exact False.elim h
 | mk d kid ih =>
  obtain ⟨h2, h4, h5, h6, h7, h8, h9⟩ := h
  exact ⟨h2.below hb, ET.came.below hb h4, h5.below hb, h6.below hb, h7, h8.upper (uB hb), fun i hi => ih i (h9 i hi)⟩
theorem PT.came.lies {w : World} {e : PT} (h : e.came w) (hs : e.small) : e.lies 0 w := by
 induction e with
 | nil => exact False.elim h
 | mk d kid ih =>
  obtain ⟨h2, h4, h5, h6, h7, h8, h9⟩ := h
  obtain ⟨s2, s3, s4, ⟨s5, s6⟩, s7, s8⟩ := hs
  exact ⟨PB.came.lies h2 s2, ET.came.lies h4 s3, h5.bs s4, h6.lies s6, s5, s7, h8, fun i hi => ih i (h9 i hi) (s8 i hi)⟩
def Box (w : World) (b : Nat) (L : List Value) : Prop := b < w.heap.size ∧ ∀ c u, L[c]? = some u → w.cell? ⟨b, c, none⟩ = some u
theorem ldm {P : Program} {ops : Array Oper} {rest : List Oper} {op : Oper} {a : Act} {w : World} {Q : Exit → Act → World → Prop} {ty : TypeId} {x : Operand} {b o : Nat} {cs : List Value} {d : TypeDesc} (hu : P.underlying ty = some d) (hc : w.rangeAt b o cs) (h : wpList P ops Q rest (a.put op.dst (.agg cs.toArray)) w)
  (hgd : op.guard = none := by rfl) (ho : op.op = .load ty x := by rfl) (hx : a.eval x = .pointer (some ⟨b, o, none⟩) := by rfl) (hd : d.isRow = true := by rfl) (hi : (P.info? ty).map (·.size) = some cs.length := by kernel_rfl) : wpList P ops Q (op :: rest) a w := wpList_load_mid hgd ty x ho b o hx cs d hc hu hd hi h
theorem bxA {w : World} {b : Nat} {a0 a1 a2 a3 a4 a5 a6 a7 : Value} {l : List Value} (h : Box w b (a0 :: a1 :: a2 :: a3 :: a4 :: a5 :: a6 :: a7 :: l)) : w.cell? ⟨b, 0, none⟩ = some a0 ∧ w.cell? ⟨b, 1, none⟩ = some a1 ∧ w.cell? ⟨b, 2, none⟩ = some a2 ∧ w.cell? ⟨b, 3, none⟩ = some a3 ∧ w.cell? ⟨b, 4, none⟩ = some a4 ∧ w.cell? ⟨b, 5, none⟩ = some a5 ∧ w.cell? ⟨b, 6, none⟩ = some a6 ∧ w.cell? ⟨b, 7, none⟩ = some a7 := ⟨h.2 0 _ rfl, h.2 1 _ rfl, h.2 2 _ rfl, h.2 3 _ rfl, h.2 4 _ rfl, h.2 5 _ rfl, h.2 6 _ rfl, h.2 7 _ rfl⟩
theorem bxB {w : World} {b : Nat} {a0 a1 a2 a3 a4 a5 a6 a7 a8 a9 a10 a11 a12 a13 a14 a15 : Value} {l : List Value} (h : Box w b (a0 :: a1 :: a2 :: a3 :: a4 :: a5 :: a6 :: a7 :: a8 :: a9 :: a10 :: a11 :: a12 :: a13 :: a14 :: a15 :: l)) : w.cell? ⟨b, 1, none⟩ = some a1 ∧ w.cell? ⟨b, 2, none⟩ = some a2 ∧ w.cell? ⟨b, 3, none⟩ = some a3 ∧ w.cell? ⟨b, 4, none⟩ = some a4 ∧ w.cell? ⟨b, 5, none⟩ = some a5 ∧ w.cell? ⟨b, 6, none⟩ = some a6 ∧ w.cell? ⟨b, 7, none⟩ = some a7 ∧ w.cell? ⟨b, 8, none⟩ = some a8 ∧ w.cell? ⟨b, 9, none⟩ = some a9 ∧ w.cell? ⟨b, 10, none⟩ = some a10 ∧ w.cell? ⟨b, 11, none⟩ = some a11 ∧ w.cell? ⟨b, 12, none⟩ = some a12 ∧ w.cell? ⟨b, 13, none⟩ = some a13 ∧ w.cell? ⟨b, 14, none⟩ = some a14 ∧ w.cell? ⟨b, 15, none⟩ = some a15 := ⟨h.2 1 _ rfl, h.2 2 _ rfl, h.2 3 _ rfl, h.2 4 _ rfl, h.2 5 _ rfl, h.2 6 _ rfl, h.2 7 _ rfl, h.2 8 _ rfl, h.2 9 _ rfl, h.2 10 _ rfl, h.2 11 _ rfl, h.2 12 _ rfl, h.2 13 _ rfl, h.2 14 _ rfl, h.2 15 _ rfl⟩
theorem bxC {w : World} {b : Nat} {a0 a1 a2 a3 a4 a5 a6 a7 a8 a9 a10 a11 a12 a13 a14 a15 a16 a17 a18 a19 a20 a21 a22 a23 : Value} {l : List Value} (h : Box w b (a0 :: a1 :: a2 :: a3 :: a4 :: a5 :: a6 :: a7 :: a8 :: a9 :: a10 :: a11 :: a12 :: a13 :: a14 :: a15 :: a16 :: a17 :: a18 :: a19 :: a20 :: a21 :: a22 :: a23 :: l)) : w.cell? ⟨b, 0, none⟩ = some a0 ∧ w.cell? ⟨b, 16, none⟩ = some a16 ∧ w.cell? ⟨b, 17, none⟩ = some a17 ∧ w.cell? ⟨b, 18, none⟩ = some a18 ∧ w.cell? ⟨b, 19, none⟩ = some a19 ∧ w.cell? ⟨b, 20, none⟩ = some a20 ∧ w.cell? ⟨b, 21, none⟩ = some a21 ∧ w.cell? ⟨b, 22, none⟩ = some a22 ∧ w.cell? ⟨b, 23, none⟩ = some a23 := ⟨h.2 0 _ rfl, h.2 16 _ rfl, h.2 17 _ rfl, h.2 18 _ rfl, h.2 19 _ rfl, h.2 20 _ rfl, h.2 21 _ rfl, h.2 22 _ rfl, h.2 23 _ rfl⟩
theorem bxD {w : World} {b : Nat} {a0 a1 a2 a3 a4 a5 a6 a7 a8 a9 a10 a11 a12 a13 a14 a15 a16 a17 a18 a19 a20 a21 a22 a23 a24 a25 a26 a27 : Value} {l : List Value} (h : Box w b (a0 :: a1 :: a2 :: a3 :: a4 :: a5 :: a6 :: a7 :: a8 :: a9 :: a10 :: a11 :: a12 :: a13 :: a14 :: a15 :: a16 :: a17 :: a18 :: a19 :: a20 :: a21 :: a22 :: a23 :: a24 :: a25 :: a26 :: a27 :: l)) : w.cell? ⟨b, 0, none⟩ = some a0 ∧ w.cell? ⟨b, 24, none⟩ = some a24 ∧ w.cell? ⟨b, 25, none⟩ = some a25 ∧ w.cell? ⟨b, 26, none⟩ = some a26 ∧ w.cell? ⟨b, 27, none⟩ = some a27 := ⟨h.2 0 _ rfl, h.2 24 _ rfl, h.2 25 _ rfl, h.2 26 _ rfl, h.2 27 _ rfl⟩
theorem Box.new (w : World) (vs : Array Value) (t : TypeId) (fr : Nat × Nat) : Box (w.alloc (.cells vs t fr)) w.heap.size vs.toList := by
 refine ⟨by simp, fun c u hu => ?_⟩
 rw [Array.getElem?_toList] at hu
 have h : (w.alloc (.cells vs t fr)).heap[w.heap.size]? = some (.cells vs t fr) := by
  show (w.heap.push _)[w.heap.size]? = _
  rw [Array.getElem?_push]
  simp
 simp only [World.cell?, h]
 exact hu
theorem Box.below {w w' : World} {b : Nat} {L : List Value} (h : Box w b L) (hb : Bl w w') : Box w' b L := ⟨Nat.lt_of_lt_of_le h.1 hb.size, fun c u hu => (hb.cell (p := ⟨b, c, none⟩) h.1).trans (h.2 c u hu)⟩
theorem Box.range {w : World} {b : Nat} {L : List Value} (h : Box w b L) (c : Nat) (cs : List Value) (hcs : (L.drop c).take cs.length = cs) : w.rangeAt b c cs := by
 intro j v hv
 refine h.2 (c + j) v ?_
 rw [← hcs, List.getElem?_take] at hv
 split at hv
 · rwa [List.getElem?_drop] at hv
 cases hv
structure CB where
 has : Bool
 t : TB
structure SO where
 a : Option Addr
 cap : Nat
 n : Nat
 cel : Nat → CB
def SL.same (x y : SL) : Prop := x.b = y.b
theorem upper_set {w : World} {g i : Nat} (v : Value) : Upper (g + 1) w (w.setCell ⟨g, i, none⟩ v) := by
 have hb := (But.refl g w).set i v
 exact ⟨by rw [hb.size]; exact nR, fun b h1 _ => hb.block b (by omega)⟩
theorem Upper.trans {B : Nat} {w w' w'' : World} (h : Upper B w w') (k : Upper B w' w'') : Upper B w w'' := ⟨Nat.le_trans h.size k.size, fun b h1 h2 => (k.block b h1 (Nat.lt_of_lt_of_le h2 h.size)).trans (h.block b h1 h2)⟩
theorem Upper.mono {B B' : Nat} {w w' : World} (h : Upper B w w') (hB : B ≤ B') : Upper B' w w' := ⟨h.size, fun b h1 h2 => h.block b (by omega) h2⟩
theorem upper_sets (g : Nat) : ∀ (vs : List Value) (o : Nat) (w : World), Upper (g + 1) w (w.setCells g o vs)
 | [], _, _ => ⟨nR, fun _ _ _ => rfl⟩
 | v :: r, o, w => (upper_set v).trans (upper_sets g r (o + 1) (w.setCell ⟨g, o, none⟩ v))
theorem below_sets {w0 : World} (g : Nat) (hg : w0.heap.size ≤ g) : ∀ (vs : List Value) (o : Nat) (w : World), Bl w0 w → Bl w0 (w.setCells g o vs)
 | [], _, _, h => h
 | v :: r, o, _, h => below_sets g hg r (o + 1) _ (h.setCell (p := ⟨g, o, none⟩) hg v)
def OB (w : World) (b : Nat) (L : List Value) : Prop := b < w.heap.size ∧ ∀ c u, L[c]? = some u → w.cell? ⟨b, c, none⟩ = some u ∧ w.frozen? ⟨b, c, none⟩ = false
theorem OB.new (w : World) (vs : Array Value) (t : TypeId) : OB (w.alloc (.cells vs t)) w.heap.size vs.toList := by
 refine ⟨by simp, fun c u hu => ⟨(Box.new w vs t _).2 c u hu, by simp [go_sem]⟩⟩
theorem OB.below {w w' : World} {b : Nat} {L : List Value} (h : OB w b L) (hb : Bl w w') : OB w' b L := ⟨Nat.lt_of_lt_of_le h.1 hb.size, fun c u hu => ⟨(hb.cell (p := ⟨b, c, none⟩) h.1).trans (h.2 c u hu).1, (hb.frozen (p := ⟨b, c, none⟩) h.1).trans (h.2 c u hu).2⟩⟩
theorem OB.set {w : World} {b : Nat} {L : List Value} (h : OB w b L) (c : Nat) (v : Value) : OB (w.setCell ⟨b, c, none⟩ v) b (L.set c v) := by
 refine ⟨by simpa using h.1, fun j u hu => ?_⟩
 by_cases e : c = j
 · subst e
   by_cases hc : c < L.length
   · rw [List.getElem?_set, if_pos rfl, if_pos hc] at hu
     cases hu
     have h2 := h.2 c _ (List.getElem?_eq_getElem hc)
     exact ⟨set_same h2.1, by rw [World.frozen?_setCell]; exact h2.2⟩
   rw [List.getElem?_eq_none (by rw [List.length_set]; omega)] at hu
   cases hu
 rw [List.getElem?_set, if_neg e] at hu
 have h2 := h.2 j u hu
 exact ⟨(set_other (fun e' => e e'.symm)).trans h2.1, by rw [World.frozen?_setCell]; exact h2.2⟩
def setL : List Value → Nat → List Value → List Value
 | L, _, [] => L
 | L, o, v :: r => setL (L.set o v) (o + 1) r
theorem OB.sets {b : Nat} : ∀ (vs : List Value) (o : Nat) {w : World} {L : List Value}, OB w b L → OB (w.setCells b o vs) b (setL L o vs)
 | [], _, _, _, h => h
 | v :: r, o, _, _, h => OB.sets r (o + 1) (h.set o v)
theorem OB.but {w w' : World} {g b : Nat} {L : List Value} (h : OB w b L) (hb : But g w w') (hne : b ≠ g) : OB w' b L := ⟨by rw [hb.size]; exact h.1, fun c u hc => ⟨(hb.cell (p := ⟨b, c, none⟩) hne).trans (h.2 c u hc).1, (World.frozen?_of_block (w := w) (a := ⟨b, c, none⟩) (hb.block b hne)).trans (h.2 c u hc).2⟩⟩
theorem but_trans {g : Nat} {w w' w'' : World} (h : But g w w') (k : But g w' w'') : But g w w'' := ⟨k.os.trans h.os, k.tape.trans h.tape, k.output.trans h.output, k.size.trans h.size, fun b hb => (k.block b hb).trans (h.block b hb)⟩
theorem but_sets (g : Nat) : ∀ (vs : List Value) (o : Nat) (w : World), But g w (w.setCells g o vs)
 | [], _, w => But.refl g w
 | v :: r, o, w => but_trans ((But.refl g w).set o v) (but_sets g r (o + 1) _)
theorem OB.box {w : World} {b : Nat} {L : List Value} (h : OB w b L) : Box w b L := ⟨h.1, fun c u hu => (h.2 c u hu).1⟩
theorem OB.there {w : World} {b : Nat} {L : List Value} (h : OB w b L) (o n : Nat) (hn : o + n ≤ L.length) : w.there b o n := fun j hj => by
 have h2 := h.2 (o + j) _ (List.getElem?_eq_getElem (by omega))
 exact ⟨by rw [h2.1]; rfl, h2.2⟩
theorem Box.upper {B : Nat} {w w' : World} {b : Nat} {L : List Value} (h : Box w b L) (hb : But B w w') (hne : b ≠ B) : Box w' b L := ⟨by rw [hb.size]; exact h.1, fun c u hc => (hb.cell (p := ⟨b, c, none⟩) hne).trans (h.2 c u hc)⟩
structure TS (w0 W : World) (pc zc oc : List Value) : Prop where
 bl : Bl w0 W
 px : Box W w0.heap.size pc
 rz : OB W (w0.heap.size + 1) zc
 ox : OB W (w0.heap.size + 1 + 1) oc
theorem TS.new (w : World) (pc zc oc : Array Value) (t u v : TypeId) : TS w (((w.alloc (.cells pc t)).alloc (.cells zc u)).alloc (.cells oc v)) pc.toList zc.toList oc.toList := by
 refine ⟨bl_alloc (bl_alloc (bl_a _) _) _, ?_, ?_, ?_⟩
 · exact ((Box.new w pc t _).below (bl_a _)).below (bl_a _)
 · have h := (OB.new (w.alloc (.cells pc t)) zc u).below (bl_a (.cells oc v))
   simpa using h
 have h := OB.new ((w.alloc (.cells pc t)).alloc (.cells zc u)) oc v
 simpa using h
theorem TS.below {w0 W W' : World} {pc zc oc : List Value} (h : TS w0 W pc zc oc) (hb : Bl W W') : TS w0 W' pc zc oc := ⟨bl_trans h.bl hb, h.px.below hb, h.rz.below hb, h.ox.below hb⟩
theorem TS.set {w0 W : World} {pc zc oc : List Value} (h : TS w0 W pc zc oc) (c : Nat) (v : Value) : TS w0 (W.setCell ⟨w0.heap.size + 1 + 1, c, none⟩ v) pc zc (oc.set c v) := by
 have hb : But (w0.heap.size + 1 + 1) W (W.setCell ⟨w0.heap.size + 1 + 1, c, none⟩ v) := (But.refl _ _).set c v
 exact ⟨h.bl.setCell (p := ⟨w0.heap.size + 1 + 1, c, none⟩) (by show w0.heap.size ≤ w0.heap.size + 1 + 1; omega) v, h.px.upper hb (by omega), h.rz.but hb (by omega), h.ox.set c v⟩
theorem TS.sets {w0 W : World} {pc zc oc : List Value} (h : TS w0 W pc zc oc) (o : Nat) (vs : List Value) : TS w0 (W.setCells (w0.heap.size + 1 + 1) o vs) pc zc (setL oc o vs) :=
 ⟨below_sets _ (by omega) vs o W h.bl, h.px.upper (but_sets _ vs o W) (by omega), h.rz.but (but_sets _ vs o W) (by omega), h.ox.sets vs o⟩
theorem TS.base {w0 W : World} {pc zc oc : List Value} (h : TS w0 W pc zc oc) : w0.heap.size + 1 + 1 + 1 ≤ W.heap.size := h.ox.1
theorem results_cell {P : Program} {fn : Func} {tmps : Array Value} {w : World} {a : Nat} {t : TypeId} {ad : Addr} {v : Value} (hf : fn.results = #[.cell a t]) (ht : tmps.getD a undef = .pointer (some ad)) (hl : (loadVar t ad).run P w = .ok v w) : (results fn tmps).run P w = .ok v w := by
 have h2 : tmps[a]?.getD undef = .pointer (some ad) := by simpa using ht
 simp [results, hf, h2, asAddr, hl]
def TxW (B : Nat) (w : World) (x : SL) : Prop := x.len = 0 ∨ ∃ g, x.a = some ⟨g, 0, none⟩ ∧ B ≤ g ∧ g < w.heap.size ∧ ∀ i, i < x.len → w.frozen? ⟨g, i, none⟩ = false
theorem TxW.upper {B : Nat} {w w' : World} {x : SL} (h : TxW B w x) (hu : Upper B w w') : TxW B w' x := by
 rcases h with h | ⟨g, ha, hB, hlt, hf⟩
 · exact .inl h
 exact .inr ⟨g, ha, hB, Nat.lt_of_lt_of_le hlt hu.size, fun i hi => (World.frozen?_of_block (w := w) (a := ⟨g, i, none⟩) (hu.block g hB hlt)).trans (hf i hi)⟩
theorem TxW.base {B B' : Nat} {w : World} {x : SL} (h : TxW B w x) (hB : B' ≤ B) : TxW B' w x := by
 rcases h with h | ⟨g, ha, hb, r⟩
 · exact .inl h
 exact .inr ⟨g, ha, Nat.le_trans hB hb, r⟩
def FrW (B : Nat) (w : World) (g m : Nat) : Prop := m = 0 ∨ B ≤ g ∧ g < w.heap.size ∧ ∀ j, j < m → w.frozen? ⟨g, j, none⟩ = false
theorem FrW.upper {B : Nat} {w w' : World} {g m : Nat} (h : FrW B w g m) (hu : Upper B w w') : FrW B w' g m := by
 rcases h with h | ⟨hB, hlt, hf⟩
 · exact .inl h
 exact .inr ⟨hB, Nat.lt_of_lt_of_le hlt hu.size, fun j hj => (World.frozen?_of_block (w := w) (a := ⟨g, j, none⟩) (hu.block g hB hlt)).trans (hf j hj)⟩
theorem FrW.base {B B' : Nat} {w : World} {g m : Nat} (h : FrW B w g m) (hB : B' ≤ B) : FrW B' w g m := by
 rcases h with h | ⟨hb, r⟩
 · exact .inl h
 exact .inr ⟨Nat.le_trans hB hb, r⟩
def SL.own (B : Nat) (w : World) (x : SL) : Prop := BsF B w x ∧ TxW B w x
theorem SL.own.upper {B : Nat} {w w' : World} {x : SL} (h : x.own B w) (hu : Upper B w w') : x.own B w' := ⟨h.1.upper hu, h.2.upper hu⟩
theorem SL.own.base {B B' : Nat} {w : World} {x : SL} (h : x.own B w) (hB : B' ≤ B) : x.own B' w := ⟨h.1.base hB, h.2.base hB⟩
theorem toByteSW (x : SL) (w : World) (h : BsF 0 w x) : Calls Tryz.prog 33 #[.slice x.a x.len x.cap] w fun e w' => ∃ y : SL, e = .returned (.slice y.a y.len y.cap) ∧ y.own w.heap.size w' ∧ x.same y ∧ Bl w w' := by
 refine (toByteS_any x.a _ _ x.b w h.1).mono ?_
 rintro e w' ⟨rfl, rfl⟩
 obtain ⟨h1, h2, h3, _⟩ := h.1
 exact ⟨⟨some _, x.len, x.len, x.b⟩, rfl, ⟨⟨Bs.made w x.b _ h1 h2 h3, .inr fun p hp => by cases hp; exact nR⟩, .inr ⟨w.heap.size, rfl, nR, by simp, fun i _ => by simp [go_sem]⟩⟩, rfl, bl_a _⟩
theorem toTermW (x : TB) (w : World) (h : BsF 0 w x.sl) (hf : x.t.fits) : Calls Tryz.prog 80 #[.agg #[.int .i64 x.t.k, .slice x.t.a x.t.len x.t.cap, .int .i64 x.t.n, .int .i64 x.t.s]] w fun e w' => ∃ y : TB, e = .returned (.agg #[.int .i64 y.t.k, .slice y.t.a y.t.len y.t.cap, .int .i64 y.t.n, .int .i64 y.t.s]) ∧ BsF w.heap.size w' y.sl ∧ TxW w.heap.size w' y.sl ∧ y.t.fits ∧ x.td = y.td ∧ Bl w w' := by
 refine (toTerm_new _ _ _ _ x.t.len _ x.b w h.1).mono ?_
 rintro e w' ⟨g, rfl, hO, hg, hb⟩
 exact ⟨⟨⟨x.t.k, some _, x.t.len, x.t.len, x.t.n, x.t.s⟩, x.b⟩, rfl, ⟨hO.1, .inr fun p hp => by cases hp; exact hg⟩, .inr ⟨g, rfl, hg, hO.2.1, hO.2.2.2⟩, hf, rfl, hb⟩
def U8 (w : World) (b j : Nat) : Prop := ∃ v, w.cell? ⟨b, j, none⟩ = some (.int .u8 v)
theorem cell_set_other {w : World} {g i b j : Nat} {v : Value} (h : b ≠ g ∨ j ≠ i) : (w.setCell ⟨g, i, none⟩ v).cell? ⟨b, j, none⟩ = w.cell? ⟨b, j, none⟩ := by
 by_cases hb : b = g
 · subst hb
   exact set_other (h.resolve_left (fun k => k rfl))
 exact World.cell?_of_block (Below.heap_setCell _ _ _ _ (by exact hb))
structure Mid (B C : Nat) (w w' : World) : Prop where
 os : w'.os = w.os
 tape : w'.tape = w.tape
 output : w'.output = w.output
 size : w'.heap.size = w.heap.size
 block : ∀ b, b < B ∨ C ≤ b → w'.heap[b]? = w.heap[b]?
theorem Mid.refl (B C : Nat) (w : World) : Mid B C w w := ⟨rfl, rfl, rfl, rfl, fun _ _ => rfl⟩
theorem Mid.but {B C g : Nat} {w w1 w2 : World} (h : Mid B C w w1) (k : But g w1 w2) (hB : B ≤ g) (hC : g < C) : Mid B C w w2 :=
 ⟨k.os.trans h.os, k.tape.trans h.tape, k.output.trans h.output, k.size.trans h.size, fun b hb => (k.block b (by omega)).trans (h.block b hb)⟩
theorem Mid.set {B C g i : Nat} {w w1 : World} {v : Value} (h : Mid B C w w1) (hB : B ≤ g) (hC : g < C) : Mid B C w (w1.setCell ⟨g, i, none⟩ v) := h.but ((But.refl g w1).set i v) hB hC
def N64 (w : World) (b j : Nat) : Prop := ∃ v, w.cell? ⟨b, j, none⟩ = some (.int .i64 v)
def Bo (w : World) (b j : Nat) : Prop := ∃ v, w.cell? ⟨b, j, none⟩ = some (.bool v)
structure KB (w w' : World) : Prop where
 u : ∀ b j, U8 w b j → U8 w' b j
 i : ∀ b j, N64 w b j → N64 w' b j
 o : ∀ b j, Bo w b j → Bo w' b j
 s : ∀ b j a l c, w.cell? ⟨b, j, none⟩ = some (.slice a l c) → w'.cell? ⟨b, j, none⟩ = some (.slice a l c)
 f : ∀ p, w'.frozen? p = w.frozen? p
theorem KB.refl (w : World) : KB w w := ⟨fun _ _ h => h, fun _ _ h => h, fun _ _ h => h, fun _ _ _ _ _ h => h, fun _ => rfl⟩
theorem KB.trans {w w' w'' : World} (h : KB w w') (k : KB w' w'') : KB w w'' := ⟨fun b j q => k.u b j (h.u b j q), fun b j q => k.i b j (h.i b j q), fun b j q => k.o b j (h.o b j q), fun b j a l c q => k.s b j a l c (h.s b j a l c q), fun p => (k.f p).trans (h.f p)⟩
theorem KB.set {w : World} {g i : Nat} {n : Int} (h : N64 w g i) : KB w (w.setCell ⟨g, i, none⟩ (.int .i64 n)) := by
 obtain ⟨v, hv⟩ := h
 refine ⟨fun b j hu => ?_, fun b j hu => ?_, fun b j hu => ?_, fun b j a l c hu => ?_, fun p => World.frozen?_setCell _ _ _ _⟩
 · by_cases e : b = g ∧ j = i
   · obtain ⟨rfl, rfl⟩ := e
     obtain ⟨u, hu⟩ := hu
     rw [hv] at hu
     cases hu
   unfold U8
   rw [cell_set_other (by omega)]
   exact hu
 · by_cases e : b = g ∧ j = i
   · obtain ⟨rfl, rfl⟩ := e
     exact ⟨_, set_same hv⟩
   unfold N64
   rw [cell_set_other (by omega)]
   exact hu
 · by_cases e : b = g ∧ j = i
   · obtain ⟨rfl, rfl⟩ := e
     obtain ⟨u, hu⟩ := hu
     rw [hv] at hu
     cases hu
   unfold Bo
   rw [cell_set_other (by omega)]
   exact hu
 by_cases e : b = g ∧ j = i
 · obtain ⟨rfl, rfl⟩ := e
   rw [hv] at hu
   cases hu
 rw [cell_set_other (by omega)]
 exact hu
theorem KB.setb {w : World} {g i : Nat} {n : Int} (h : U8 w g i) : KB w (w.setCell ⟨g, i, none⟩ (.int .u8 n)) := by
 obtain ⟨v, hv⟩ := h
 refine ⟨fun b j hu => ?_, fun b j hu => ?_, fun b j hu => ?_, fun b j a l c hu => ?_, fun p => World.frozen?_setCell _ _ _ _⟩
 · by_cases e : b = g ∧ j = i
   · obtain ⟨rfl, rfl⟩ := e
     exact ⟨_, set_same hv⟩
   unfold U8
   rw [cell_set_other (by omega)]
   exact hu
 · by_cases e : b = g ∧ j = i
   · obtain ⟨rfl, rfl⟩ := e
     obtain ⟨u, hu⟩ := hu
     rw [hv] at hu
     cases hu
   unfold N64
   rw [cell_set_other (by omega)]
   exact hu
 · by_cases e : b = g ∧ j = i
   · obtain ⟨rfl, rfl⟩ := e
     obtain ⟨u, hu⟩ := hu
     rw [hv] at hu
     cases hu
   unfold Bo
   rw [cell_set_other (by omega)]
   exact hu
 by_cases e : b = g ∧ j = i
 · obtain ⟨rfl, rfl⟩ := e
   rw [hv] at hu
   cases hu
 rw [cell_set_other (by omega)]
 exact hu
def TxM (B C : Nat) (w : World) (a : Option Addr) (len : Nat) : Prop := len ≤ 1048576 ∧ (len = 0 ∨ ∃ g, a = some ⟨g, 0, none⟩ ∧ B ≤ g ∧ g < C ∧ ∀ i, i < len → U8 w g i ∧ w.frozen? ⟨g, i, none⟩ = false)
theorem TxM.kb {B C : Nat} {w w' : World} {a : Option Addr} {len : Nat} (h : TxM B C w a len) (k : KB w w') : TxM B C w' a len := by
 refine ⟨h.1, ?_⟩
 rcases h.2 with h | ⟨g, ha, hB, hC, hx⟩
 · exact .inl h
 exact .inr ⟨g, ha, hB, hC, fun i hi => ⟨k.u _ _ (hx i hi).1, (k.f _).trans (hx i hi).2⟩⟩
theorem SL.own.marks {B : Nat} {w w' : World} {x : SL} (h : x.own B w) (hb : Bl w w') : TxM B w.heap.size w' x.a x.len := by
 obtain ⟨h1, h2⟩ := h
 refine ⟨h1.1.2.1, ?_⟩
 rcases h2 with h2 | ⟨g, ha, hB, hlt, hf⟩
 · exact .inl h2
 rcases h1.1.2.2.2 with h3 | ⟨b, off, ha', _, hc⟩
 · exact .inl h3
 rw [ha] at ha'
 cases ha'
 exact .inr ⟨g, ha, hB, hlt, fun i hi => ⟨⟨_, (hb.cell (p := ⟨g, i, none⟩) hlt).trans (by have := hc i hi; rwa [Nat.zero_add] at this)⟩, (hb.frozen (p := ⟨g, i, none⟩) hlt).trans (hf i hi)⟩⟩
end Go.Proofs.YtoloadogihbdeaaGreat
