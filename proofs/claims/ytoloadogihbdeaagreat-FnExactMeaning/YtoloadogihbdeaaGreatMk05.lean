import Derived.Test.YtoloadogihbdeaaGreatMk04
namespace Go.Proofs.YtoloadogihbdeaaGreat
open Go.RowKit Go.Deep
set_option maxHeartbeats 40000000
structure Past (g : Nat) (w w' : World) : Prop where
 os : w'.os = w.os
 tape : w'.tape = w.tape
 output : w'.output = w.output
 size : w.heap.size ≤ w'.heap.size
 block : ∀ b, b < w.heap.size → b ≠ g → w'.heap[b]? = w.heap[b]?
theorem Past.refl (g : Nat) (w : World) : Past g w w := ⟨rfl, rfl, rfl, nR, fun _ _ _ => rfl⟩
theorem Past.trans {g : Nat} {w w' w'' : World} (h : Past g w w') (k : Past g w' w'') : Past g w w'' :=
 ⟨k.os.trans h.os, k.tape.trans h.tape, k.output.trans h.output, Nat.le_trans h.size k.size, fun b hb hn => (k.block b (Nat.lt_of_lt_of_le hb h.size) hn).trans (h.block b hb hn)⟩
theorem Past.of_below {g : Nat} {w w' : World} (h : Bl w w') : Past g w w' := ⟨h.os, h.tape, h.output, h.size, fun b hb _ => h.block b hb⟩
theorem Past.set {g : Nat} {w w' : World} (h : Past g w w') (i : Nat) (v : Value) : Past g w (w'.setCell ⟨g, i, none⟩ v) :=
 ⟨h.os, h.tape, h.output, by simpa using h.size, fun b hb hn => (Below.heap_setCell _ _ _ _ hn).trans (h.block b hb hn)⟩
theorem Past.below {g B : Nat} {w w' : World} (h : Past g w w') (hB : B ≤ g) (hw : B ≤ w.heap.size) : Below B w w' :=
 ⟨h.os, h.tape, h.output, h.size, fun b hb => h.block b (by omega) (by omega)⟩
theorem Past.cell {g : Nat} {w w' : World} (h : Past g w w') {p : Addr} (hp : p.block < w.heap.size) (hn : p.block ≠ g) : w'.cell? p = w.cell? p := World.cell?_of_block (w := w) (h.block p.block hp hn)
set_option maxRecDepth 100000
def Tells (P : Prop) (w : World) (e : Ending) (w' : World) : Prop := ∃ q : Bool, e = .returned (.bool q) ∧ (q = true ↔ P) ∧ Bl w w'
theorem Tells.of {P : Prop} {w w' : World} {b : Bool} (h : b = true ↔ P) (hb : Bl w w') : Tells P w (.returned (.bool b)) w' := ⟨b, rfl, h, hb⟩
theorem Tells.no {P : Prop} {w w' : World} (h : ¬ P) (hb : Bl w w') : Tells P w (.returned (.bool false)) w' := ⟨false, rfl, ⟨fun e => (by cases e), fun hp => absurd hp h⟩, hb⟩
theorem Tells.yes {P : Prop} {w w' : World} (h : P) (hb : Bl w w') : Tells P w (.returned (.bool true)) w' := ⟨true, rfl, ⟨fun _ => h, fun _ => rfl⟩, hb⟩
def zeroT (x : TD) : Prop := x.k = 0 ∧ x.bs = [] ∧ x.n = 0 ∧ x.s = 0
def zeroI (x : IB) : Prop := x.v.b = [] ∧ zeroT x.t.td
def zeroP (x : PB) : Prop := zeroI x.s ∧ zeroI x.p ∧ zeroI x.o
def itOk (x : IB) (m : Int) : Prop := (x.v.b ≠ [] ∧ nameOk x.v.b = true ∧ zeroT x.t.td) ∨ (x.v.b = [] ∧ x.t.td.ok = true ∧ x.t.t.k ≤ m)
def ptOk (x : PB) : Prop := itOk x.s 1 ∧ itOk x.p 0 ∧ itOk x.o 3
def kOk (k : Int) (n : Nat) : Prop := ((k = 0 ∨ k = 1 ∨ k = 4) ∧ n = 0) ∨ ((k = 3 ∨ k = 7) ∧ n = 1) ∨ (k = 2 ∧ n = 2) ∨ (k = 5 ∧ n = 3) ∨ (k = 6 ∧ 1 ≤ n ∧ n ≤ 4)
def nodeOk (d : EN) : Prop := kOk d.k d.n ∧ ((d.k = 0 ∨ d.k = 4) → nameOk d.v.b = true) ∧ (¬ (d.k = 0 ∨ d.k = 4) → d.v.b = []) ∧ (d.k = 1 → d.t.td.ok = true) ∧ (d.k ≠ 1 → zeroT d.t.td) ∧ (0 ≤ d.op ∧ d.op ≤ 7) ∧ (d.k ≠ 2 → d.op = 0)
def sumN : Nat → (Nat → Nat) → Nat
 | 0, _ => 0
 | n + 1, f => sumN n f + f n
def eOk (lim : Int) : ET → Int → Prop
 | .nil, _ => False
 | .mk d kid, deep => deep ≤ lim ∧ nodeOk d ∧ ∀ i, i < d.n → eOk lim (kid i) (deep + 1)
def esz : ET → Nat
 | .nil => 0
 | .mk d kid => 1 + sumN d.n (fun i => esz (kid i))
def zeroE (e : ET) : Prop := e.d.k = 0 ∧ e.d.op = 0 ∧ e.d.v.b = [] ∧ zeroT e.d.t.td ∧ e.d.n = 0
theorem nil_len {b : List Int} {n : Nat} (h : b.length = n) : b = [] ↔ n = 0 := by
 rw [← h]
 exact List.length_eq_zero_iff.symm
theorem name_pos {b : List Int} (h : nameOk b = true) : b ≠ [] := by
 rintro rfl
 simp [nameOk] at h
theorem sumN_le {n : Nat} {f : Nat → Nat} {i : Nat} (h : i < n) : f i ≤ sumN n f := by
 induction n with
 | zero => omega
 | succ n ih =>
  show f i ≤ sumN n f + f n
  by_cases e : i = n
  · rw [e]; omega
  have := ih (by omega); omega
theorem sumN_mono {n m : Nat} {f : Nat → Nat} (h : n ≤ m) : sumN n f ≤ sumN m f := by
 induction m with
 | zero => rw [show n = 0 by omega]; exact nR
 | succ m ih =>
  by_cases e : n = m + 1
  · rw [e]; exact nR
  have := ih (by omega)
  show sumN n f ≤ sumN m f + f m
  omega
theorem sumN_congr {n : Nat} {f g : Nat → Nat} (h : ∀ i, i < n → f i = g i) : sumN n f = sumN n g := by
 induction n with
 | zero => rfl
 | succ n ih =>
  show sumN n f + f n = sumN n g + g n
  rw [ih (fun i hi => h i (by omega)), h n (by omega)]
theorem itOk_same {x y : IB} (h : x.same y) (m : Int) : itOk x m ↔ itOk y m := by
 have hk : x.t.t.k = y.t.t.k := congrArg TD.k h.2
 unfold itOk
 rw [h.1, h.2, hk]
theorem ptOk_same {x y : PB} (h : x.same y) : ptOk x ↔ ptOk y := by
 unfold ptOk
 rw [itOk_same h.1, itOk_same h.2.1, itOk_same h.2.2]
theorem zeroP_same {x y : PB} (h : x.same y) : zeroP x ↔ zeroP y := by
 unfold zeroP zeroI
 rw [h.1.1, h.1.2, h.2.1.1, h.2.1.2, h.2.2.1, h.2.2.2]
theorem eOk_same {lim : Int} {e : ET} : ∀ {e' : ET} {deep : Int}, e.same e' → (eOk lim e deep ↔ eOk lim e' deep) := by
 induction e with
 | nil => exact fun h => False.elim h
 | mk d kid ih =>
  intro e' deep h
  cases e' with
  | nil => exact False.elim h
  | mk d' kid' =>
  obtain ⟨h0, h1, h2, h3, h4, h5⟩ := h
  show (deep ≤ lim ∧ nodeOk d ∧ ∀ i, i < d.n → eOk lim (kid i) (deep + 1)) ↔ (deep ≤ lim ∧ nodeOk d' ∧ ∀ i, i < d'.n → eOk lim (kid' i) (deep + 1))
  have e1 : nodeOk d ↔ nodeOk d' := by
   unfold nodeOk
   rw [h0, h1, h2, h3, h4]
  rw [e1, ← h4]
  refine and_congr_right fun _ => and_congr_right fun _ => ⟨fun H i hi => (ih i (h5 i hi)).1 (H i hi), fun H i hi => (ih i (h5 i hi)).2 (H i hi)⟩
theorem esz_same {e : ET} : ∀ {e' : ET}, e.same e' → esz e = esz e' := by
 induction e with
 | nil => exact fun h => False.elim h
 | mk d kid ih =>
  intro e' h
  cases e' with
  | nil => exact False.elim h
  | mk d' kid' =>
  obtain ⟨_, _, _, _, h4, h5⟩ := h
  show 1 + sumN d.n _ = 1 + sumN d'.n _
  rw [← h4, sumN_congr fun i hi => ih i (h5 i hi)]
theorem zeroE_same {e e' : ET} (h : e.same e') : zeroE e ↔ zeroE e' := by
 cases e with
 | nil => exact False.elim h
 | mk d kid =>
 cases e' with
 | nil => exact False.elim h
 | mk d' kid' =>
 obtain ⟨h0, h1, h2, h3, h4, _⟩ := h
 show (d.k = 0 ∧ d.op = 0 ∧ d.v.b = [] ∧ zeroT d.t.td ∧ d.n = 0) ↔ (d'.k = 0 ∧ d'.op = 0 ∧ d'.v.b = [] ∧ zeroT d'.t.td ∧ d'.n = 0)
 rw [h0, h1, h2, h3, h4]
theorem l4zeroTerm_any (x : TB) (w : World) (h : BsF 0 w x.sl) :
 Calls Tryz.prog 135 #[.agg #[.int .i64 x.t.k, .slice x.t.a x.t.len x.t.cap, .int .i64 x.t.n, .int .i64 x.t.s]] w (Tells (zeroT x.td) w) := by
 have HL : Hd (x.b = [] ↔ x.t.len = 0) := nil_len h.1.1
 clear h
 by_cases h0 : x.t.k = 0
 rotate_left
 · go_in
   go_wp2
   go_ret
   exact Tells.no (P := zeroT _) (fun hp => h0 hp.1) (bl_a _)
 by_cases h1 : x.t.len = 0
 rotate_left
 · go_in
   go_wp2
   go_ret
   exact Tells.no (P := zeroT _) (fun hp => h1 (HL.o.1 hp.2.1)) (bl_a _)
 by_cases h2 : x.t.n = 0
 rotate_left
 · go_in
   go_wp2
   go_ret
   exact Tells.no (P := zeroT _) (fun hp => h2 hp.2.2.1) (bl_a _)
 by_cases h3 : x.t.s = 0
 rotate_left
 · have h3' : (x.t.s == 0) = false := by simp [h3]
   go_in
   go_wp2
   go_ret
   exact Tells.no (P := zeroT _) (fun hp => h3 hp.2.2.2) (bl_a _)
 have HP : Hd (zeroT x.td) := ⟨h0, HL.o.2 h1, h2, h3⟩
 go_in
 go_wp2
 go_ret
 exact Tells.yes HP.o (bl_a _)
theorem l4var_any (x : SL) (w : World) (h : BsF 0 w x) : Calls Tryz.prog 108 #[.slice x.a x.len x.cap] w (Tells (nameOk x.b = true) w) := by
 have T := specTermOk_any 0 0 0 x.a x.len x.cap x.b w h.1 (by omega) (by omega)
 have e : termOk 0 x.b 0 0 = nameOk x.b := by simp [termOk]
 rw [e] at T
 clear h
 go_in
 go_wp2_with fail
 refine T.mono ?_
 rintro e w1 ⟨rfl, o1, rfl⟩
 clear T
 go_wp2
 go_ret
 exact Tells.of Iff.rfl (bl_a _)
theorem l4zeroItem_any (x : IB) (w : World) (h : x.lies 0 w) : Calls Tryz.prog 140 #[.agg x.ar] w (Tells (zeroI x) w) := by
 have HL := iH (nil_len h.1.1.1)
 have HZ := iH (fun o => l4zeroTerm_any x.t _ (h.2.1.upper (uB (bl_a o))))
 clear h
 by_cases h0 : x.v.len = 0
 · have Z := HZ.o
   go_in
   go_wp2_with fail
   refine (Z _).mono ?_
   rintro e w1 ⟨q1, rfl, hq1, hb1⟩
   have HQ := iH (show (q1 = true ↔ zeroI x) from hq1.trans ⟨fun h => ⟨HL.o.2 h0, h⟩, fun h => h.2⟩)
   have HB := iH (bl_trans (bl_a _) hb1)
   clear Z hq1 hb1
   go_wp2
   go_ret
   exact Tells.of HQ.o HB.o
 go_in
 go_wp2
 go_ret
 exact Tells.no (P := zeroI x) (fun hp => h0 (HL.o.1 hp.1)) (bl_a _)
theorem l4zeroPat_any (x : PB) (w : World) (h : x.lies 0 w) : Calls Tryz.prog 114 #[.agg x.ar] w (Tells (zeroP x) w) := by
 have HZ1 := iH (fun W (hb : Below _ w W) => l4zeroItem_any x.s W (h.1.upper (uB hb)))
 have HZ2 := iH (fun W (hb : Below _ w W) => l4zeroItem_any x.p W (h.2.1.upper (uB hb)))
 have HZ3 := iH (fun W (hb : Below _ w W) => l4zeroItem_any x.o W (h.2.2.upper (uB hb)))
 clear h
 go_in
 have Z1 := HZ1.o
 go_wp2_with fail
 refine (Z1 _ (bl_a _)).mono ?_
 rintro e w1 ⟨q1, rfl, hq1, hb1⟩
 have HX1 := iH ((Box.new w _ 39 _).below hb1)
 have HB1 := iH (bl_trans (bl_a _) hb1)
 have HQ1 := iH hq1
 clear hb1 Z1 hq1
 cases q1
 · have HF1 : Hd (¬ zeroP x) := fun hp => by have := HQ1.o.2 hp.1; cases this
   clear HQ1
   go_wp2
   go_ret
   exact Tells.no (P := zeroP x) HF1.o HB1.o
 have HT1 := iH (HQ1.o.1 rfl)
 clear HQ1
 have c5 := HX1.o.2 5 _ rfl
 have c6 := HX1.o.2 6 _ rfl
 have c7 := HX1.o.2 7 _ rfl
 have c8 := HX1.o.2 8 _ rfl
 have c9 := HX1.o.2 9 _ rfl
 have Z2 := HZ2.o
 go_wp2_with fail
 refine (Z2 _ HB1.o).mono ?_
 rintro e w2 ⟨q2, rfl, hq2, hb2⟩
 have HX2 := iH (HX1.o.below hb2)
 have HB2 := iH (bl_trans HB1.o hb2)
 have HQ2 := iH hq2
 clear hb2 Z2 hq2 c5 c6 c7 c8 c9
 cases q2
 · have HF2 : Hd (¬ zeroP x) := fun hp => by have := HQ2.o.2 hp.2.1; cases this
   clear HQ2
   go_wp2
   go_ret
   exact Tells.no (P := zeroP x) HF2.o HB2.o
 have HT2 := iH (HQ2.o.1 rfl)
 clear HQ2
 have c10 := HX2.o.2 10 _ rfl
 have c11 := HX2.o.2 11 _ rfl
 have c12 := HX2.o.2 12 _ rfl
 have c13 := HX2.o.2 13 _ rfl
 have c14 := HX2.o.2 14 _ rfl
 have Z3 := HZ3.o
 go_wp2_with fail
 refine (Z3 _ HB2.o).mono ?_
 rintro e w3 ⟨q3, rfl, hq3, hb3⟩
 have HB3 := iH (bl_trans HB2.o hb3)
 have HQ3 := iH hq3
 clear hb3 Z3 hq3 c10 c11 c12 c13 c14
 go_wp2
 go_ret
 exact Tells.of (P := zeroP x) ⟨fun h => ⟨HT1.o, HT2.o, HQ3.o.1 h⟩, fun h => HQ3.o.2 h.2.2⟩ HB3.o
theorem l4item_any (x : IB) (m : Int) (w : World) (h : x.lies 0 w) : Calls Tryz.prog 136 #[.agg x.ar, .int .i64 m] w (Tells (itOk x m) w) := by
 try unfold IB.ar
 have HL := iH (nil_len h.1.1.1)
 have HZ := iH (fun W (hb : Below _ w W) => l4zeroTerm_any x.t W (h.2.1.upper (uB hb)))
 have HV := iH (fun W (hb : Below _ w W) => l4var_any x.v W (h.1.upper (uB hb)))
 have HT : Hd (∀ W, Bl w W → Cl 110 #[.agg #[.int .i64 x.t.t.k, .slice x.t.t.a x.t.t.len x.t.t.cap, .int .i64 x.t.t.n, .int .i64 x.t.t.s]] W (Tells (x.t.td.ok = true) W)) := fun W hb => (specTermOk_any x.t.t.k x.t.t.n x.t.t.s x.t.t.a x.t.t.len x.t.t.cap x.t.b W (h.2.1.upper (uB hb)).1 h.2.2.1 h.2.2.2.1).mono fun e w' ⟨h1, o, h2⟩ => by
  subst h1 h2
  exact Tells.of Iff.rfl (bl_a _)
 clear h
 by_cases h0' : x.v.len = 0
 · have h0 := iH h0'
   have h0z : ¬ (0 : Int) < (x.v.len : Int) := by omega
   clear h0'
   have Z := HT.o
   go_in
   go_wp2_with fail
   refine (Z _ (bl_a _)).mono ?_
   rintro e w1 ⟨q1, rfl, hq1, hb1⟩
   have HQ1 := iH hq1
   have c1 := ((Box.new w _ 37 _).below hb1).2 1 _ rfl
   have HB := iH (bl_trans (bl_a _) hb1)
   clear Z hq1 hb1
   cases q1
   · have HF : Hd (¬ itOk x m) := fun hp => by
      rcases hp with hp | hp
      · exact hp.1 (HL.o.2 h0.o)
      have := HQ1.o.2 hp.2.1
      cases this
     clear HQ1
     go_wp2
     go_ret
     exact Tells.no HF.o HB.o
   have HE : Hd ((decide (x.t.t.k ≤ m)) = true ↔ itOk x m) := by
    show (_ ↔ _)
    rw [decide_eq_true_iff]
    exact ⟨fun h => .inr ⟨HL.o.2 h0.o, HQ1.o.1 rfl, h⟩, fun h => by
     rcases h with h | h
     · exact absurd (HL.o.2 h0.o) h.1
     exact h.2.2⟩
   clear HQ1
   go_wp2
   go_ret
   exact Tells.of HE.o HB.o
 have h0z : (0 : Int) < (x.v.len : Int) := by omega
 have h0 := iH h0'
 clear h0'
 have Z := HV.o
 go_in
 go_wp2_with fail
 refine (Z _ (bl_a _)).mono ?_
 rintro e w1 ⟨q1, rfl, hq1, hb1⟩
 have HQ1 := iH hq1
 have HX1 := iH ((Box.new w _ 37 _).below hb1)
 have HB := iH (bl_trans (bl_a _) hb1)
 clear Z hq1 hb1
 cases q1
 · have HF : Hd (¬ itOk x m) := fun hp => by
    rcases hp with hp | hp
    · have := HQ1.o.2 hp.2.1
      cases this
    exact h0.o (HL.o.1 hp.1)
   clear HQ1
   go_wp2
   go_ret
   exact Tells.no HF.o HB.o
 have HT1 := iH (HQ1.o.1 rfl)
 clear HQ1
 have c1 := HX1.o.2 1 _ rfl
 have c2 := HX1.o.2 2 _ rfl
 have c3 := HX1.o.2 3 _ rfl
 have c4 := HX1.o.2 4 _ rfl
 have Z := HZ.o
 go_wp2_with fail
 refine (Z _ HB.o).mono ?_
 rintro e w2 ⟨q2, rfl, hq2, hb2⟩
 have HE : Hd (q2 = true ↔ itOk x m) := (show (q2 = true ↔ itOk x m) from hq2.trans ⟨fun h => .inl ⟨fun e => h0.o (HL.o.1 e), HT1.o, h⟩, fun h => by
  rcases h with h | h
  · exact h.2.2
  exact absurd (HL.o.1 h.1) h0.o⟩)
 have HB2 := iH (bl_trans HB.o hb2)
 clear Z hq2 hb2 c1 c2 c3 c4
 go_wp2
 go_ret
 exact Tells.of HE.o HB2.o
theorem l4pat_any (x : PB) (w : World) (h : x.lies 0 w) : Calls Tryz.prog 109 #[.agg x.ar] w (Tells (ptOk x) w) := by
 have HZ1 := iH (fun W (hb : Below _ w W) => l4item_any x.s 1 W (h.1.upper (uB hb)))
 have HZ2 := iH (fun W (hb : Below _ w W) => l4item_any x.p 0 W (h.2.1.upper (uB hb)))
 have HZ3 := iH (fun W (hb : Below _ w W) => l4item_any x.o 3 W (h.2.2.upper (uB hb)))
 clear h
 go_in
 have Z1 := HZ1.o
 go_wp2_with fail
 refine (Z1 _ (bl_a _)).mono ?_
 rintro e w1 ⟨q1, rfl, hq1, hb1⟩
 have HX1 := iH ((Box.new w _ 39 _).below hb1)
 have HB1 := iH (bl_trans (bl_a _) hb1)
 have HQ1 := iH hq1
 clear hb1 Z1 hq1
 cases q1
 · have HF1 : Hd (¬ ptOk x) := fun hp => by have := HQ1.o.2 hp.1; cases this
   clear HQ1
   go_wp2
   go_ret
   exact Tells.no (P := ptOk x) HF1.o HB1.o
 have HT1 := iH (HQ1.o.1 rfl)
 clear HQ1
 have c5 := HX1.o.2 5 _ rfl
 have c6 := HX1.o.2 6 _ rfl
 have c7 := HX1.o.2 7 _ rfl
 have c8 := HX1.o.2 8 _ rfl
 have c9 := HX1.o.2 9 _ rfl
 have Z2 := HZ2.o
 go_wp2_with fail
 refine (Z2 _ HB1.o).mono ?_
 rintro e w2 ⟨q2, rfl, hq2, hb2⟩
 have HX2 := iH (HX1.o.below hb2)
 have HB2 := iH (bl_trans HB1.o hb2)
 have HQ2 := iH hq2
 clear hb2 Z2 hq2 c5 c6 c7 c8 c9
 cases q2
 · have HF2 : Hd (¬ ptOk x) := fun hp => by have := HQ2.o.2 hp.2.1; cases this
   clear HQ2
   go_wp2
   go_ret
   exact Tells.no (P := ptOk x) HF2.o HB2.o
 have HT2 := iH (HQ2.o.1 rfl)
 clear HQ2
 have c10 := HX2.o.2 10 _ rfl
 have c11 := HX2.o.2 11 _ rfl
 have c12 := HX2.o.2 12 _ rfl
 have c13 := HX2.o.2 13 _ rfl
 have c14 := HX2.o.2 14 _ rfl
 have Z3 := HZ3.o
 go_wp2_with fail
 refine (Z3 _ HB2.o).mono ?_
 rintro e w3 ⟨q3, rfl, hq3, hb3⟩
 have HB3 := iH (bl_trans HB2.o hb3)
 have HQ3 := iH hq3
 clear hb3 Z3 hq3 c10 c11 c12 c13 c14
 go_wp2
 go_ret
 exact Tells.of (P := ptOk x) ⟨fun h => ⟨HT1.o, HT2.o, HQ3.o.1 h⟩, fun h => HQ3.o.2 h.2.2⟩ HB3.o
def kidsN (k : Int) (n : Nat) : Int := if k = 0 ∨ k = 1 ∨ k = 4 then 0 else if k = 3 ∨ k = 7 then 1 else if k = 2 then 2 else if k = 5 then 3 else if k = 6 ∧ 1 ≤ n ∧ n ≤ 4 then n else -1
theorem kidsN_ok (k : Int) (n : Nat) : kidsN k n = n ↔ kOk k n := by
 unfold kidsN kOk
 repeat' split
 all_goals omega
theorem l4kids_any (d : EN) (w : World) : Calls Tryz.prog 132 #[.agg d.ar] w fun e w' => e = .returned (.int .i64 (kidsN d.k d.n)) ∧ ∃ o, w' = w.alloc o := by
 go_in
 go_wp2
 all_goals go_ret
 all_goals refine ⟨?_, _, rfl⟩
 all_goals (unfold kidsN; simp_all <;> omega)
theorem l4zeroExpr_any (e : ET) (w : World) (h : e.lies 0 w) : Calls Tryz.prog 107 #[.agg e.d.ar] w (Tells (zeroE e) w) := by
 try unfold EN.ar
 cases e with
 | nil => exact False.elim h
 | mk d kid =>
 obtain ⟨hv, ht, _⟩ := h
 show Calls Tryz.prog 107 #[.agg d.ar] w (Tells (d.k = 0 ∧ d.op = 0 ∧ d.v.b = [] ∧ zeroT d.t.td ∧ d.n = 0) w)
 have HL := iH (nil_len hv.1.1)
 have HZ := iH (fun W (hb : Below _ w W) => l4zeroTerm_any d.t W (ht.upper (uB hb)))
 obtain ⟨P, hP⟩ : ∃ P, P = (d.k = 0 ∧ d.op = 0 ∧ d.v.b = [] ∧ zeroT d.t.td ∧ d.n = 0) := ⟨_, rfl⟩
 have HP := iH (show (P ↔ _) by rw [hP])
 rw [← hP]
 clear hv ht hP
 by_cases h0 : d.k = 0
 rotate_left
 · go_in
   go_wp2
   go_ret
   exact Tells.no (fun hp => h0 (HP.o.1 hp).1) (bl_a _)
 by_cases h1 : d.op = 0
 rotate_left
 · go_in
   go_wp2
   go_ret
   exact Tells.no (fun hp => h1 (HP.o.1 hp).2.1) (bl_a _)
 by_cases h2 : d.v.len = 0
 rotate_left
 · go_in
   go_wp2
   go_ret
   exact Tells.no (fun hp => h2 (HL.o.1 (HP.o.1 hp).2.2.1)) (bl_a _)
 have H3 : Hd (d.k = 0 ∧ d.op = 0 ∧ d.v.b = []) := ⟨h0, h1, HL.o.2 h2⟩
 have Z := HZ.o
 go_in
 go_wp2_with fail
 refine (Z _ (bl_a _)).mono ?_
 rintro e w1 ⟨q1, rfl, hq1, hb1⟩
 have HQ := iH hq1
 have HX : w1.cell? ⟨w.heap.size, 7, none⟩ = some (.slice d.ka d.n d.kc) := (hb1.cell (p := ⟨w.heap.size, 7, none⟩) (by simp)).trans (by simp [go_sem])
 have HB := iH (bl_trans (bl_a _) hb1)
 clear Z hq1 hb1
 cases q1
 · have HF : Hd (¬ P) := fun hp => by have := HQ.o.2 (HP.o.1 hp).2.2.2.1; cases this
   clear HQ
   go_wp2
   go_ret
   exact Tells.no HF.o HB.o
 by_cases h5 : d.n = 0
 · have HY := iH (HP.o.2 ⟨H3.o.1, H3.o.2.1, H3.o.2.2, HQ.o.1 rfl, h5⟩)
   go_wp2
   go_ret
   exact Tells.yes HY.o HB.o
 have h5' : ((d.n : Int) == 0) = false := by simp; omega
 have HF : Hd (¬ P) := fun hp => h5 (HP.o.1 hp).2.2.2.2
 clear HQ
 go_wp2
 go_ret
 exact Tells.no HF.o HB.o
def Sw (l : Int) (n : Nat) (e : Ending) : Prop := ∃ r : Int, e = .returned (.int .i64 r) ∧ (r = -1 ∨ 0 ≤ r ∧ r ≤ 1048576 ∧ r + (n : Int) ≤ l)
def IB.wt (x : IB) : Nat := x.v.len + x.t.t.len
def PB.wt (x : PB) : Nat := x.s.wt + x.p.wt + x.o.wt
def ET.wt : ET → Nat
 | .nil => 0
 | .mk d kid => d.v.len + d.t.t.len + (d.n + sumN d.n (fun i => (kid i).wt))
def twt (tb : List TB) (k : Nat) : Nat := sumN k (fun j => (tb[j]?.map (fun x => x.t.len)).getD 0)
def SL.wt (x : SL) : Nat := x.len
theorem szByteS_w (x : SL) (l : Int) (w : World) (h1 : 0 ≤ l) (h2 : l ≤ 1048576) (h3 : x.len ≤ 9223372036854775807) :
 Calls Tryz.prog 24 #[.slice x.a x.len x.cap, .int .i64 l] w fun e w' => Sw l x.wt e ∧ Bl w w' := by
 refine (szByteS_any x.a x.len x.cap l w h1 h2 h3).mono ?_
 rintro e w' ⟨rfl, rfl⟩
 refine ⟨⟨_, rfl, ?_⟩, Below.refl _ _⟩
 unfold SL.wt
 by_cases h : l < x.len
 · exact .inl (if_pos h)
 rw [if_neg h]
 exact .inr ⟨by omega, by omega, by omega⟩
theorem szTerm_w (x : TB) (l : Int) (w : World) (h1 : 0 ≤ l) (h2 : l ≤ 1048576) (h3 : x.t.len ≤ 9223372036854775807) :
 Calls Tryz.prog 68 #[.agg #[.int .i64 x.t.k, .slice x.t.a x.t.len x.t.cap, .int .i64 x.t.n, .int .i64 x.t.s], .int .i64 l] w fun e w' => Sw l x.t.len e ∧ Bl w w' := by
 refine (szTerm_any x.t.k x.t.n x.t.s x.t.a x.t.len x.t.cap l w h1 h2 h3).mono ?_
 rintro e w' ⟨rfl, hb⟩
 refine ⟨⟨_, rfl, ?_⟩, hb⟩
 unfold leftOf
 by_cases h : l < x.t.len
 · exact .inl (if_pos h)
 rw [if_neg h]
 exact .inr ⟨by omega, by omega, by omega⟩
theorem szItem_w (x : IB) (l : Int) (w : World) (h1 : 0 ≤ l) (h2 : l ≤ 1048576) (hc : x.came w) :
 Calls Tryz.prog 104 #[.agg x.ar, .int .i64 l] w fun e w' => Sw l x.wt e ∧ Bl w w' := by
 have HZ1 : Hd (∀ (W : World) (l : Int), 0 ≤ l → l ≤ 1048576 → Bl w W → Cl 24 #[.slice x.v.a x.v.len x.v.cap, .int .i64 l] W fun e w' => Sw l (x.v.wt) e ∧ Bl W w') := fun W l h1 h2 hb => szByteS_w x.v l W h1 h2 hc.1.1
 have HZ2 : Hd (∀ (W : World) (l : Int), 0 ≤ l → l ≤ 1048576 → Bl w W → Cl 68 #[.agg #[.int .i64 x.t.t.k, .slice x.t.t.a x.t.t.len x.t.t.cap, .int .i64 x.t.t.n, .int .i64 x.t.t.s], .int .i64 l] W fun e w' => Sw l (x.t.t.len) e ∧ Bl W w') := fun W l h1 h2 hb => szTerm_w x.t l W h1 h2 hc.2.1.1
 clear hc
 go_in
 have Z1 := HZ1.o
 go_wp2_with fail
 refine (Z1 _ l h1 h2 (bl_a _)).mono ?_
 rintro e w1 ⟨⟨r1, rfl, hr1⟩, hb1⟩
 have HX1 : Hd (Box w1 w.heap.size x.cl) := (Box.new w x.ar 63 _).below hb1
 have HB1 := iH (bl_trans (bl_a _) hb1)
 clear hb1 Z1 
 rcases hr1 with rfl | ⟨p1, q1, s1⟩
 · go_wp2
   go_ret
   exact ⟨⟨-1, rfl, .inl rfl⟩, HB1.o⟩
 have n1 : ¬ r1 < 0 := by omega
 have HS1 := iH s1
 clear s1
 have ld : w1.rangeAt w.heap.size 1 [.int .i64 x.t.t.k, .slice x.t.t.a x.t.t.len x.t.t.cap, .int .i64 x.t.t.n, .int .i64 x.t.t.s] := HX1.o.range 1 _ rfl
 have Z2 := HZ2.o
 go_wp2_with (refine ldm Tryz.underlying25 ld ?_; try simp only [Act.put, sA, zA, cA])
 refine (Z2 _ r1 p1 q1 HB1.o).mono ?_
 rintro e w2 ⟨⟨r2, rfl, hr2⟩, hb2⟩
 have HX2 := iH (HX1.o.below hb2)
 have HB2 := iH (bl_trans HB1.o hb2)
 clear hb2 Z2 ld HX1 HB1
 rcases hr2 with rfl | ⟨p2, q2, s2⟩
 · go_wp2
   go_ret
   exact ⟨⟨-1, rfl, .inl rfl⟩, HB2.o⟩
 have n2 : ¬ r2 < 0 := by omega
 have HS2 := iH s2
 clear s2
 go_wp2
 go_ret
 exact ⟨⟨r2, rfl, .inr ⟨p2, q2, (show r2 + ((x.v.wt + x.t.t.len : Nat) : Int) ≤ l by have a1 := HS1.o; have a2 := HS2.o; omega)⟩⟩, HB2.o⟩
theorem szPat_w (x : PB) (l : Int) (w : World) (h1 : 0 ≤ l) (h2 : l ≤ 1048576) (hc : x.came w) :
 Calls Tryz.prog 59 #[.agg x.ar, .int .i64 l] w fun e w' => Sw l x.wt e ∧ Bl w w' := by
 have HZ1 : Hd (∀ (W : World) (l : Int), 0 ≤ l → l ≤ 1048576 → Bl w W → Cl 104 #[.agg x.s.ar, .int .i64 l] W fun e w' => Sw l (x.s.wt) e ∧ Bl W w') := fun W l h1 h2 hb => szItem_w x.s l W h1 h2 (hc.1.below hb)
 have HZ2 : Hd (∀ (W : World) (l : Int), 0 ≤ l → l ≤ 1048576 → Bl w W → Cl 104 #[.agg x.p.ar, .int .i64 l] W fun e w' => Sw l (x.p.wt) e ∧ Bl W w') := fun W l h1 h2 hb => szItem_w x.p l W h1 h2 (hc.2.1.below hb)
 have HZ3 : Hd (∀ (W : World) (l : Int), 0 ≤ l → l ≤ 1048576 → Bl w W → Cl 104 #[.agg x.o.ar, .int .i64 l] W fun e w' => Sw l (x.o.wt) e ∧ Bl W w') := fun W l h1 h2 hb => szItem_w x.o l W h1 h2 (hc.2.2.below hb)
 clear hc
 go_in
 have Z1 := HZ1.o
 go_wp2_with fail
 refine (Z1 _ l h1 h2 (bl_a _)).mono ?_
 rintro e w1 ⟨⟨r1, rfl, hr1⟩, hb1⟩
 have HX1 : Hd (Box w1 w.heap.size x.cl) := (Box.new w x.ar 65 _).below hb1
 have HB1 := iH (bl_trans (bl_a _) hb1)
 clear hb1 Z1 
 rcases hr1 with rfl | ⟨p1, q1, s1⟩
 · go_wp2
   go_ret
   exact ⟨⟨-1, rfl, .inl rfl⟩, HB1.o⟩
 have n1 : ¬ r1 < 0 := by omega
 have HS1 := iH s1
 clear s1
 have ld : w1.rangeAt w.heap.size 5 x.p.cl := HX1.o.range 5 _ rfl
 have Z2 := HZ2.o
 go_wp2_with (refine ldm Tryz.underlying63 ld ?_; try simp only [Act.put, sA, zA, cA])
 refine (Z2 _ r1 p1 q1 HB1.o).mono ?_
 rintro e w2 ⟨⟨r2, rfl, hr2⟩, hb2⟩
 have HX2 := iH (HX1.o.below hb2)
 have HB2 := iH (bl_trans HB1.o hb2)
 clear hb2 Z2 ld HX1 HB1
 rcases hr2 with rfl | ⟨p2, q2, s2⟩
 · go_wp2
   go_ret
   exact ⟨⟨-1, rfl, .inl rfl⟩, HB2.o⟩
 have n2 : ¬ r2 < 0 := by omega
 have HS2 := iH s2
 clear s2
 have ld : w2.rangeAt w.heap.size 10 x.o.cl := HX2.o.range 10 _ rfl
 have Z3 := HZ3.o
 go_wp2_with (refine ldm Tryz.underlying63 ld ?_; try simp only [Act.put, sA, zA, cA])
 refine (Z3 _ r2 p2 q2 HB2.o).mono ?_
 rintro e w3 ⟨⟨r3, rfl, hr3⟩, hb3⟩
 have HX3 := iH (HX2.o.below hb3)
 have HB3 := iH (bl_trans HB2.o hb3)
 clear hb3 Z3 ld HX2 HB2
 rcases hr3 with rfl | ⟨p3, q3, s3⟩
 · go_wp2
   go_ret
   exact ⟨⟨-1, rfl, .inl rfl⟩, HB3.o⟩
 have n3 : ¬ r3 < 0 := by omega
 have HS3 := iH s3
 clear s3
 go_wp2
 go_ret
 exact ⟨⟨r3, rfl, .inr ⟨p3, q3, (show r3 + ((x.s.wt + x.p.wt + x.o.wt : Nat) : Int) ≤ l by have a1 := HS1.o; have a2 := HS2.o; have a3 := HS3.o; omega)⟩⟩, HB3.o⟩
theorem szExprS_w (a : Option Addr) (cap n : Nat) (kid : Nat → ET) (l : Int) (w : World) (h1 : 0 ≤ l) (h2 : l ≤ 1048576) (hn : n ≤ 9223372036854775807) (hR : KRow 0 w 8 a n (fun i => (kid i).d.cells))
 (IH : ∀ i, i < n → ∀ (W : World) (l : Int), 0 ≤ l → l ≤ 1048576 → Bl w W → Calls Tryz.prog 23 #[.agg (kid i).d.ar, .int .i64 l] W fun e w' => Sw l (kid i).wt e ∧ Bl W w') :
 Calls Tryz.prog 69 #[.slice a n cap, .int .i64 l] w fun e w' => Sw l (n + sumN n (fun i => (kid i).wt)) e ∧ Bl w w' := by
 try unfold EN.ar
 by_cases hbig : l < n
 · clear hR IH
   go_in
   go_wp2
   go_ret
   exact ⟨⟨-1, rfl, .inl rfl⟩, Below.refl _ _⟩
 by_cases hn0 : n = 0
 · subst hn0
   clear hR IH hn hbig
   have hbig : ¬ l < 0 := by omega
   go_in
   go_wp2
   refine wp_loop_rounds 1 ?_
   rw [rounds_succ]
   go_wp2
   go_ret
   exact ⟨⟨_, rfl, .inr ⟨by omega, by omega, by simp [sumN]⟩⟩, Below.refl _ _⟩
 obtain ⟨b, off, rfl, _, hlt, hc⟩ := hR.resolve_left hn0
 have HC := iH hc
 have HI := iH IH
 clear hR hc IH
 go_in
 go_wp2
 go_loopw [1, 5] (fun x i wr => ∃ (k : Nat) (r : Int), k ≤ n ∧ i = .int .i64 k ∧ x = .int .i64 r ∧ 0 ≤ r ∧ r ≤ 1048576 ∧ Hd (Bl w wr) ∧ Hd (r + ((n + sumN k (fun i => (kid i).wt) : Nat) : Int) ≤ l))
  (fun _ i _ => n - (intOf i).toNat)
 case atStart => exact ⟨0, _, nZ, rfl, rfl, by omega, by omega, Below.refl _ _, (show _ ≤ _ by simp only [sumN]; omega)⟩
 obtain ⟨k, r, hk, rfl, rfl, hr0, hr1, HB, HH⟩ := hrel
 by_cases hlk : k < n
 · have hcx : ∀ c u, ((kid k).d.cells)[c]? = some u → wr.cell? ⟨b, off + k * 8 + c, none⟩ = some u := fun c u hu => (HB.o.cell (p := ⟨b, off + k * 8 + c, none⟩) hlt).trans (HC.o k hlk c u hu)
   have hin : (Tryz.prog.info? 28).map (·.size) = some 8 := by kernel_rfl
   have Z := HI.o k hlk
   go_wp2_with (refine wpList_load_mid rfl 28 _ rfl b (off + k * 8) rfl (kid k).d.cl _ hcx Tryz.underlying28 rfl hin ?_; try simp only [Act.put, sA, zA, cA])
   refine (Z _ r hr0 hr1 HB.o).mono ?_
   rintro e w2 ⟨⟨q, rfl, hq⟩, hb2⟩
   have HB2 := iH (bl_trans HB.o hb2)
   clear hcx hin Z hb2 HB
   rcases hq with rfl | ⟨z1, z2, z3⟩
   · go_wp2
     go_ret
     exact ⟨⟨-1, rfl, .inl rfl⟩, HB2.o⟩
   have HZ3 := iH z3
   have nq : ¬ q < 0 := by omega
   clear z3
   go_wp2
   go_roundw
   case rel =>
    refine ⟨k + 1, q, by omega, by go_num, rfl, by omega, by omega, HB2, ?_⟩
    have a1 := HH.o
    have a2 := HZ3.o
    show q + ((n + (sumN k (fun i => (kid i).wt) + (kid k).wt) : Nat) : Int) ≤ l
    omega
   case measure => simp [intOf]; omega
 obtain rfl : k = n := by omega
 go_wp2
 go_ret
 exact ⟨⟨r, rfl, .inr ⟨hr0, hr1, HH.o⟩⟩, HB.o⟩
theorem szExpr_w (e : ET) : ∀ (l : Int) (w : World), 0 ≤ l → l ≤ 1048576 → e.came w → Calls Tryz.prog 23 #[.agg e.d.ar, .int .i64 l] w fun r w' => Sw l e.wt r ∧ Bl w w' := by
 induction e with
 | nil => exact fun _ _ _ _ h => False.elim h
 | mk d kid ih =>
  intro l w h1 h2 hc
  show Calls Tryz.prog 23 #[.agg d.ar, .int .i64 l] w fun r w' => Sw l (d.v.len + d.t.t.len + (d.n + sumN d.n (fun i => (kid i).wt))) r ∧ Bl w w'
  obtain ⟨hv, ht, _, hn, hR, hk⟩ := hc
  have HZ1 : Hd (∀ (W : World) (l : Int), 0 ≤ l → l ≤ 1048576 → Bl w W → Cl 24 #[.slice d.v.a d.v.len d.v.cap, .int .i64 l] W fun e w' => Sw l (d.v.len) e ∧ Bl W w') := fun W l h1 h2 hb => szByteS_w d.v l W h1 h2 hv.1
  have HZ2 : Hd (∀ (W : World) (l : Int), 0 ≤ l → l ≤ 1048576 → Bl w W → Cl 68 #[.agg #[.int .i64 d.t.t.k, .slice d.t.t.a d.t.t.len d.t.t.cap, .int .i64 d.t.t.n, .int .i64 d.t.t.s], .int .i64 l] W fun e w' => Sw l (d.t.t.len) e ∧ Bl W w') := fun W l h1 h2 hb => szTerm_w d.t l W h1 h2 ht.1
  have HZ3 : Hd (∀ (W : World) (l : Int), 0 ≤ l → l ≤ 1048576 → Bl w W → Cl 69 #[.slice d.ka d.n d.kc, .int .i64 l] W fun e w' => Sw l (d.n + sumN d.n (fun i => (kid i).wt)) e ∧ Bl W w') := fun W l h1 h2 hb => szExprS_w d.ka d.kc d.n kid l W h1 h2 hn (hR.upper (uB hb)) fun i hi W' l' a1 a2 hW => ih i l' W' a1 a2 (ET.came.below (bl_trans hb hW) (hk i hi))
  clear hv ht hR hk ih hn
  go_in
  have Z1 := HZ1.o
  go_wp2_with fail
  refine (Z1 _ l h1 h2 (bl_a _)).mono ?_
  rintro e w1 ⟨⟨r1, rfl, hr1⟩, hb1⟩
  have HX1 : Hd (Box w1 w.heap.size d.cl) := (Box.new w d.ar 28 _).below hb1
  have HB1 := iH (bl_trans (bl_a _) hb1)
  clear hb1 Z1 
  rcases hr1 with rfl | ⟨p1, q1, s1⟩
  · go_wp2
    go_ret
    exact ⟨⟨-1, rfl, .inl rfl⟩, HB1.o⟩
  have n1 : ¬ r1 < 0 := by omega
  have HS1 := iH s1
  clear s1
  have ld : w1.rangeAt w.heap.size 3 [.int .i64 d.t.t.k, .slice d.t.t.a d.t.t.len d.t.t.cap, .int .i64 d.t.t.n, .int .i64 d.t.t.s] := HX1.o.range 3 _ rfl
  have Z2 := HZ2.o
  go_wp2_with (refine ldm Tryz.underlying25 ld ?_; try simp only [Act.put, sA, zA, cA])
  refine (Z2 _ r1 p1 q1 HB1.o).mono ?_
  rintro e w2 ⟨⟨r2, rfl, hr2⟩, hb2⟩
  have HX2 := iH (HX1.o.below hb2)
  have HB2 := iH (bl_trans HB1.o hb2)
  clear hb2 Z2 ld HX1 HB1
  rcases hr2 with rfl | ⟨p2, q2, s2⟩
  · go_wp2
    go_ret
    exact ⟨⟨-1, rfl, .inl rfl⟩, HB2.o⟩
  have n2 : ¬ r2 < 0 := by omega
  have HS2 := iH s2
  clear s2
  have ld := HX2.o.2 7 _ rfl
  have Z3 := HZ3.o
  go_wp2_with fail
  refine (Z3 _ r2 p2 q2 HB2.o).mono ?_
  rintro e w3 ⟨⟨r3, rfl, hr3⟩, hb3⟩
  have HX3 := iH (HX2.o.below hb3)
  have HB3 := iH (bl_trans HB2.o hb3)
  clear hb3 Z3 ld HX2 HB2
  rcases hr3 with rfl | ⟨p3, q3, s3⟩
  · go_wp2
    go_ret
    exact ⟨⟨-1, rfl, .inl rfl⟩, HB3.o⟩
  have n3 : ¬ r3 < 0 := by omega
  have HS3 := iH s3
  clear s3
  go_wp2
  go_ret
  exact ⟨⟨r3, rfl, .inr ⟨p3, q3, (show r3 + ((d.v.len + d.t.t.len + (d.n + sumN d.n (fun i => (kid i).wt)) : Nat) : Int) ≤ l by have a1 := HS1.o; have a2 := HS2.o; have a3 := HS3.o; omega)⟩⟩, HB3.o⟩
theorem szTermS_w (a : Option Addr) (cap : Nat) (tb : List TB) (l : Int) (w : World) (h1 : 0 ≤ l) (h2 : l ≤ 1048576) (hc : TCm w a tb) :
 Calls Tryz.prog 25 #[.slice a tb.length cap, .int .i64 l] w fun e w' => Sw l (tb.length + twt tb tb.length) e ∧ Bl w w' := by
 obtain ⟨hR, hn, hl⟩ := hc
 obtain ⟨n, hnn⟩ : ∃ n, n = tb.length := ⟨_, rfl⟩
 have HN := iH hnn
 rw [← hnn] at hn
 rw [← hnn]
 by_cases hbig : l < n
 · clear hR hl
   go_in
   go_wp2
   go_ret
   exact ⟨⟨-1, rfl, .inl rfl⟩, Below.refl _ _⟩
 by_cases hn0 : n = 0
 · subst hn0
   clear hR hl hnn HN hn hbig
   have hbig : ¬ l < 0 := by omega
   go_in
   go_wp2
   refine wp_loop_rounds 1 ?_
   rw [rounds_succ]
   go_wp2
   go_ret
   exact ⟨⟨_, rfl, .inr ⟨by omega, by omega, by simp [twt, sumN]⟩⟩, Below.refl _ _⟩
 have ht0 : tb ≠ [] := by
  intro e
  rw [e] at hnn
  exact hn0 (by simpa using hnn)
 obtain ⟨b, off, rfl, hlt, hc⟩ := hR.resolve_left ht0
 have HC := iH hc
 have HL : Hd (∀ x ∈ tb, x.t.len ≤ 9223372036854775807) := fun x hx => (hl x hx).1.1
 clear hR hl hc hnn ht0
 go_in
 go_wp2
 go_loopw [1, 5] (fun x i wr => ∃ (k : Nat) (r : Int), k ≤ n ∧ i = .int .i64 k ∧ x = .int .i64 r ∧ 0 ≤ r ∧ r ≤ 1048576 ∧ Hd (Bl w wr) ∧ Hd (r + ((n + twt tb k : Nat) : Int) ≤ l))
  (fun _ i _ => n - (intOf i).toNat)
 case atStart => exact ⟨0, _, nZ, rfl, rfl, by omega, by omega, Below.refl _ _, (show _ ≤ _ by simp only [twt, sumN]; omega)⟩
 obtain ⟨k, r, hk, rfl, rfl, hr0, hr1, HB, HH⟩ := hrel
 by_cases hlk : k < n
 · have hkl : k < tb.length := by rw [← HN.o]; exact hlk
   obtain ⟨x, hx⟩ : ∃ x, x = tb[k] := ⟨_, rfl⟩
   have HX : Hd (tb[k]? = some x) := (show tb[k]? = some x by rw [hx]; exact List.getElem?_eq_getElem hkl)
   have hcx := TRow.at (l := tb) (b := b) (off := off) (w := wr) (fun j u hu => (HB.o.cell (p := ⟨b, off + j, none⟩) hlt).trans (HC.o j u hu)) k hkl
   rw [← hx] at hcx
   obtain ⟨x0, x1, x2, x3⟩ := hcx
   have Z := fun w => szTerm_w x r w hr0 hr1 (HL.o x (List.mem_of_getElem? HX.o))
   clear hx hkl
   go_wp2_with fail
   refine (Z _).mono ?_
   rintro e w2 ⟨⟨q, rfl, hq⟩, hb2⟩
   have HB2 := iH (bl_trans HB.o hb2)
   clear x0 x1 x2 x3 Z hb2 HB
   rcases hq with rfl | ⟨z1, z2, z3⟩
   · go_wp2
     go_ret
     exact ⟨⟨-1, rfl, .inl rfl⟩, HB2.o⟩
   have HZ3 := iH z3
   have nq : ¬ q < 0 := by omega
   clear z3
   go_wp2
   go_roundw
   case rel =>
    refine ⟨k + 1, q, by omega, by go_num, rfl, by omega, by omega, HB2, ?_⟩
    have a1 := HH.o
    have a2 := HZ3.o
    have a3 : twt tb (k + 1) = twt tb k + x.t.len := by
     show twt tb k + (tb[k]?.map (fun x => x.t.len)).getD 0 = _
     rw [HX.o]
     rfl
    show q + ((n + twt tb (k + 1) : Nat) : Int) ≤ l
    omega
   case measure => simp [intOf]; omega
 obtain rfl : k = n := by omega
 go_wp2
 go_ret
 exact ⟨⟨r, rfl, .inr ⟨hr0, hr1, HH.o⟩⟩, HB.o⟩
end Go.Proofs.YtoloadogihbdeaaGreat
