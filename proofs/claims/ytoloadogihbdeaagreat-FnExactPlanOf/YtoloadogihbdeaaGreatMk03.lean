import Derived.Test.YtoloadogihbdeaaGreatMk02
namespace Go.Proofs.YtoloadogihbdeaaGreat
open Go.RowKit Go.Deep
set_option maxHeartbeats 40000000
set_option maxRecDepth 100000
variable {e : ET} {b : List Int} {l : List TB} {B B' C g m n o : Nat} {f : Nat → Nat} {a : Option Addr} {x y : PB} {P : Prop} {w w' : World}
def Tells (P : Prop) (w : World) (e : Ending) (w' : World) : Prop := ∃ q : Bool, e = .returned (.bool q) ∧ (q = true ↔ P) ∧ Bl w w'
theorem Tells.of {b : Bool} (h : b = true ↔ P) (hb : Bl w w') : Tells P w (.returned (.bool b)) w' := ⟨b, rfl, h, hb⟩
theorem Tells.no (h : ¬ P) (hb : Bl w w') : Tells P w (.returned (.bool false)) w' := ⟨false, rfl, ⟨fun e => (by cases e), fun hp => absurd hp h⟩, hb⟩
theorem Tells.yes (h : P) (hb : Bl w w') : Tells P w (.returned (.bool true)) w' := ⟨true, rfl, ⟨fun _ => h, fun _ => rfl⟩, hb⟩
def zeroT (x : TD) : Prop := x.k = 0 ∧ x.bs = [] ∧ x.n = 0 ∧ x.s = 0
def zeroI (x : IB) : Prop := x.v.b = [] ∧ zeroT x.t.td
def zeroP (x : PB) : Prop := zeroI x.s ∧ zeroI x.p ∧ zeroI x.o
def itOk (x : IB) (m : Int) : Prop := (x.v.b ≠ [] ∧ nameOk x.v.b = true ∧ zeroT x.t.td) ∨ (x.v.b = [] ∧ x.t.td.ok = true ∧ x.t.t.k ≤ m)
def ptOk (x : PB) : Prop := itOk x.s 1 ∧ itOk x.p 0 ∧ itOk x.o 3
def kOk (k : Int) (n : Nat) : Prop := ((k = 0 ∨ k = 1 ∨ k = 4) ∧ n = 0) ∨ ((k = 3 ∨ k = 7) ∧ n = 1) ∨ (k = 2 ∧ n = 2) ∨ (k = 5 ∧ n = 3) ∨ (k = 6 ∧ 1 ≤ n ∧ n ≤ 4)
def nodeOk (d : EN) : Prop := kOk d.k d.n ∧ ((d.k = 0 ∨ d.k = 4) → nameOk d.v.b = true) ∧ (¬ (d.k = 0 ∨ d.k = 4) → d.v.b = []) ∧ (d.k = 1 → d.t.td.ok = true) ∧ (d.k ≠ 1 → zeroT d.t.td) ∧ (0 ≤ d.op ∧ d.op ≤ 7) ∧ (d.k ≠ 2 → d.op = 0)
def sumN : Nat → (Nat → Nat) → Nat
 | 0, _ => 0
 | n + 1, f => sumN n f + f n
def eOk (lim : Int) : ET → Int → Prop
 | .nil, _ => False
 | .mk d kid, deep => deep ≤ lim ∧ nodeOk d ∧ ∀ i, i < d.n → eOk lim (kid i) (deep + 1)
def esz : ET → Nat
 | .nil => 0
 | .mk d kid => 1 + sumN d.n (fun i => esz (kid i))
def zeroE (e : ET) : Prop := e.d.k = 0 ∧ e.d.op = 0 ∧ e.d.v.b = [] ∧ zeroT e.d.t.td ∧ e.d.n = 0
theorem nil_len (h : b.length = n) : b = [] ↔ n = 0 := by
 rw [← h];exact List.length_eq_zero_iff.symm
theorem name_pos (h : nameOk b = true) : b ≠ [] := by
 rintro rfl;simp [nameOk] at h
theorem sumN_le {i : Nat} (h : i < n) : f i ≤ sumN n f := by
 induction n with
 | zero => omega
 | succ n ih =>
  show f i ≤ sumN n f + f n;by_cases e : i = n
  · rw [e]; omega
  have := ih (by omega); omega
theorem sumN_mono (h : n ≤ m) : sumN n f ≤ sumN m f := by
 induction m with
 | zero => rw [show n = 0 by omega]; exact nR
 | succ m ih =>
  by_cases e : n = m + 1
  · rw [e]; exact nR
  have := ih (by omega);show sumN n f ≤ sumN m f + f m;omega
theorem sumN_congr {g : Nat → Nat} (h : ∀ i, i < n → f i = g i) : sumN n f = sumN n g := by
 induction n with
 | zero => rfl
 | succ n ih =>
  show sumN n f + f n = sumN n g + g n;rw [ih (fun i hi => h i (by omega)), h n (by omega)]
theorem itOk_same {x y : IB} (h : x.same y) (m : Int) : itOk x m ↔ itOk y m := by
 have hk : x.t.t.k = y.t.t.k := congrArg TD.k h.2;unfold itOk;rw [h.1, h.2, hk]
theorem ptOk_same (h : x.same y) : ptOk x ↔ ptOk y := by
 unfold ptOk;rw [itOk_same h.1, itOk_same h.2.1, itOk_same h.2.2]
theorem zeroP_same (h : x.same y) : zeroP x ↔ zeroP y := by
 unfold zeroP zeroI;rw [h.1.1, h.1.2, h.2.1.1, h.2.1.2, h.2.2.1, h.2.2.2]
theorem eOk_same {lim : Int} : ∀ {e' : ET} {deep : Int}, e.same e' → (eOk lim e deep ↔ eOk lim e' deep) := by
 induction e with
 | nil => exact fun h => False.elim h
 | mk d kid ih =>
  intro e' deep h;cases e' with
  | nil => exact False.elim h
  | mk d' kid' =>
  obtain ⟨h0, h1, h2, h3, h4, h5⟩ := h;show (deep ≤ lim ∧ nodeOk d ∧ ∀ i, i < d.n → eOk lim (kid i) (deep + 1)) ↔ (deep ≤ lim ∧ nodeOk d' ∧ ∀ i, i < d'.n → eOk lim (kid' i) (deep + 1));have e1 : nodeOk d ↔ nodeOk d' := by
   unfold nodeOk;rw [h0, h1, h2, h3, h4]
  rw [e1, ← h4];refine and_congr_right fun _ => and_congr_right fun _ => ⟨fun H i hi => (ih i (h5 i hi)).1 (H i hi), fun H i hi => (ih i (h5 i hi)).2 (H i hi)⟩
theorem esz_same : ∀ {e' : ET}, e.same e' → esz e = esz e' := by
 induction e with
 | nil => exact fun h => False.elim h
 | mk d kid ih =>
  intro e' h;cases e' with
  | nil => exact False.elim h
  | mk d' kid' =>
  obtain ⟨_, _, _, _, h4, h5⟩ := h;show 1 + sumN d.n _ = 1 + sumN d'.n _;rw [← h4, sumN_congr fun i hi => ih i (h5 i hi)]
theorem zeroE_same {e' : ET} (h : e.same e') : zeroE e ↔ zeroE e' := by
 cases e with
 | nil => exact False.elim h
 | mk d kid =>
 cases e' with
 | nil => exact False.elim h
 | mk d' kid' =>
 obtain ⟨h0, h1, h2, h3, h4, _⟩ := h;show (d.k = 0 ∧ d.op = 0 ∧ d.v.b = [] ∧ zeroT d.t.td ∧ d.n = 0) ↔ (d'.k = 0 ∧ d'.op = 0 ∧ d'.v.b = [] ∧ zeroT d'.t.td ∧ d'.n = 0);rw [h0, h1, h2, h3, h4]
theorem l4zeroTerm_any (x : TB) (w : World) (h : BsF 0 w x.sl) :
 Calls Tryz.prog 135 #[.agg #[.int .i64 x.t.k, .slice x.t.a x.t.len x.t.cap, .int .i64 x.t.n, .int .i64 x.t.s]] w (Tells (zeroT x.td) w) := by
 have HL : Hd (x.b = [] ↔ x.t.len = 0) := nil_len h.1.1;clear h;by_cases h0 : x.t.k = 0;rotate_left
 · go_in
   go_wp2;go_ret;exact Tells.no (P := zeroT _) (fun hp => h0 hp.1) (bl_a _)
 by_cases h1 : x.t.len = 0;rotate_left
 · go_in
   go_wp2;go_ret;exact Tells.no (P := zeroT _) (fun hp => h1 (HL.o.1 hp.2.1)) (bl_a _)
 by_cases h2 : x.t.n = 0;rotate_left
 · go_in
   go_wp2;go_ret;exact Tells.no (P := zeroT _) (fun hp => h2 hp.2.2.1) (bl_a _)
 by_cases h3 : x.t.s = 0;rotate_left
 · have h3' : (x.t.s == 0) = false := by simp [h3]
   go_in;go_wp2;go_ret;exact Tells.no (P := zeroT _) (fun hp => h3 hp.2.2.2) (bl_a _)
 have HP : Hd (zeroT x.td) := ⟨h0, HL.o.2 h1, h2, h3⟩;go_in;go_wp2;go_ret;exact Tells.yes HP.o (bl_a _)
theorem l4var_any (x : SL) (w : World) (h : BsF 0 w x) : Calls Tryz.prog 108 #[.slice x.a x.len x.cap] w (Tells (nameOk x.b = true) w) := by
 have T := specTermOk_any 0 0 0 x.a x.len x.cap x.b w h.1 (by omega) (by omega);have e : termOk 0 x.b 0 0 = nameOk x.b := by simp [termOk]
 rw [e] at T;clear h;go_in;go_wp2_with fail
 refine T.mono ?_;rintro e w1 ⟨rfl, o1, rfl⟩;clear T;go_wp2;go_ret;exact Tells.of Iff.rfl (bl_a _)
theorem l4zeroItem_any (x : IB) (w : World) (h : x.lies 0 w) : Calls Tryz.prog 140 #[.agg x.ar] w (Tells (zeroI x) w) := by
 have HL := iH (nil_len h.1.1.1);have HZ := iH (fun o => l4zeroTerm_any x.t _ (h.2.1.upper (uB (bl_a o))));clear h;by_cases h0 : x.v.len = 0
 · have Z := HZ.o
   go_in;go_wp2_with fail
   refine (Z _).mono ?_;rintro e w1 ⟨q1, rfl, hq1, hb1⟩;have HQ := iH (show (q1 = true ↔ zeroI x) from hq1.trans ⟨fun h => ⟨HL.o.2 h0, h⟩, fun h => h.2⟩);have HB := iH (bl_trans (bl_a _) hb1);clear Z hq1 hb1;go_wp2;go_ret;exact Tells.of HQ.o HB.o
 go_in;go_wp2;go_ret;exact Tells.no (P := zeroI x) (fun hp => h0 (HL.o.1 hp.1)) (bl_a _)
theorem l4zeroPat_any (x : PB) (w : World) (h : x.lies 0 w) : Calls Tryz.prog 114 #[.agg x.ar] w (Tells (zeroP x) w) := by
 have HZ1 := iH (fun W (hb : Below _ w W) => l4zeroItem_any x.s W (h.1.upper (uB hb)));have HZ2 := iH (fun W (hb : Below _ w W) => l4zeroItem_any x.p W (h.2.1.upper (uB hb)));have HZ3 := iH (fun W (hb : Below _ w W) => l4zeroItem_any x.o W (h.2.2.upper (uB hb)));clear h;go_in;have Z1 := HZ1.o;go_wp2_with fail
 refine (Z1 _ (bl_a _)).mono ?_;rintro e w1 ⟨q1, rfl, hq1, hb1⟩;have HX1 := iH ((Box.new w _ 39 _).below hb1);have HB1 := iH (bl_trans (bl_a _) hb1);have HQ1 := iH hq1;clear hb1 Z1 hq1;cases q1
 · have HF1 : Hd (¬ zeroP x) := fun hp => by have := HQ1.o.2 hp.1; cases this
   clear HQ1;go_wp2;go_ret;exact Tells.no (P := zeroP x) HF1.o HB1.o
 have HT1 := iH (HQ1.o.1 rfl);clear HQ1;have c5 := HX1.o.2 5 _ rfl;have c6 := HX1.o.2 6 _ rfl;have c7 := HX1.o.2 7 _ rfl;have c8 := HX1.o.2 8 _ rfl;have c9 := HX1.o.2 9 _ rfl;have Z2 := HZ2.o;go_wp2_with fail
 refine (Z2 _ HB1.o).mono ?_;rintro e w2 ⟨q2, rfl, hq2, hb2⟩;have HX2 := iH (HX1.o.below hb2);have HB2 := iH (bl_trans HB1.o hb2);have HQ2 := iH hq2;clear hb2 Z2 hq2 c5 c6 c7 c8 c9;cases q2
 · have HF2 : Hd (¬ zeroP x) := fun hp => by have := HQ2.o.2 hp.2.1; cases this
   clear HQ2;go_wp2;go_ret;exact Tells.no (P := zeroP x) HF2.o HB2.o
 have HT2 := iH (HQ2.o.1 rfl);clear HQ2;have c10 := HX2.o.2 10 _ rfl;have c11 := HX2.o.2 11 _ rfl;have c12 := HX2.o.2 12 _ rfl;have c13 := HX2.o.2 13 _ rfl;have c14 := HX2.o.2 14 _ rfl;have Z3 := HZ3.o;go_wp2_with fail
 refine (Z3 _ HB2.o).mono ?_;rintro e w3 ⟨q3, rfl, hq3, hb3⟩;have HB3 := iH (bl_trans HB2.o hb3);have HQ3 := iH hq3;clear hb3 Z3 hq3 c10 c11 c12 c13 c14;go_wp2;go_ret;exact Tells.of (P := zeroP x) ⟨fun h => ⟨HT1.o, HT2.o, HQ3.o.1 h⟩, fun h => HQ3.o.2 h.2.2⟩ HB3.o
theorem l4item_any (x : IB) (m : Int) (w : World) (h : x.lies 0 w) : Calls Tryz.prog 136 #[.agg x.ar, .int .i64 m] w (Tells (itOk x m) w) := by
 try unfold IB.ar IB.cl
 have HL := iH (nil_len h.1.1.1);have HZ := iH (fun W (hb : Below _ w W) => l4zeroTerm_any x.t W (h.2.1.upper (uB hb)));have HV := iH (fun W (hb : Below _ w W) => l4var_any x.v W (h.1.upper (uB hb)));have HT : Hd (∀ W, Bl w W → Cl 110 #[.agg #[.int .i64 x.t.t.k, .slice x.t.t.a x.t.t.len x.t.t.cap, .int .i64 x.t.t.n, .int .i64 x.t.t.s]] W (Tells (x.t.td.ok = true) W)) := fun W hb => (specTermOk_any x.t.t.k x.t.t.n x.t.t.s x.t.t.a x.t.t.len x.t.t.cap x.t.b W (h.2.1.upper (uB hb)).1 h.2.2.1 h.2.2.2.1).mono fun e w' ⟨h1, o, h2⟩ => by
  subst h1 h2;exact Tells.of Iff.rfl (bl_a _)
 clear h;by_cases h0' : x.v.len = 0
 · have h0 := iH h0'
   have h0z : ¬ (0 : Int) < (x.v.len : Int) := by omega
   clear h0';have Z := HT.o;go_in;go_wp2_with fail
   refine (Z _ (bl_a _)).mono ?_;rintro e w1 ⟨q1, rfl, hq1, hb1⟩;have HQ1 := iH hq1;have c1 := ((Box.new w _ 37 _).below hb1).2 1 _ rfl;have HB := iH (bl_trans (bl_a _) hb1);clear Z hq1 hb1;cases q1
   · have HF : Hd (¬ itOk x m) := fun hp => by
      rcases hp with hp | hp
      · exact hp.1 (HL.o.2 h0.o)
      have := HQ1.o.2 hp.2.1;cases this
     clear HQ1;go_wp2;go_ret;exact Tells.no HF.o HB.o
   have HE : Hd ((decide (x.t.t.k ≤ m)) = true ↔ itOk x m) := by
    show (_ ↔ _);rw [decide_eq_true_iff];exact ⟨fun h => .inr ⟨HL.o.2 h0.o, HQ1.o.1 rfl, h⟩, fun h => by
     rcases h with h | h
     · exact absurd (HL.o.2 h0.o) h.1
     exact h.2.2⟩
   clear HQ1;go_wp2;go_ret;exact Tells.of HE.o HB.o
 have h0z : (0 : Int) < (x.v.len : Int) := by omega
 have h0 := iH h0';clear h0';have Z := HV.o;go_in;go_wp2_with fail
 refine (Z _ (bl_a _)).mono ?_;rintro e w1 ⟨q1, rfl, hq1, hb1⟩;have HQ1 := iH hq1;have HX1 := iH ((Box.new w _ 37 _).below hb1);have HB := iH (bl_trans (bl_a _) hb1);clear Z hq1 hb1;cases q1
 · have HF : Hd (¬ itOk x m) := fun hp => by
    rcases hp with hp | hp
    · have := HQ1.o.2 hp.2.1
      cases this
    exact h0.o (HL.o.1 hp.1)
   clear HQ1;go_wp2;go_ret;exact Tells.no HF.o HB.o
 have HT1 := iH (HQ1.o.1 rfl);clear HQ1;have c1 := HX1.o.2 1 _ rfl;have c2 := HX1.o.2 2 _ rfl;have c3 := HX1.o.2 3 _ rfl;have c4 := HX1.o.2 4 _ rfl;have Z := HZ.o;go_wp2_with fail
 refine (Z _ HB.o).mono ?_;rintro e w2 ⟨q2, rfl, hq2, hb2⟩;have HE : Hd (q2 = true ↔ itOk x m) := (show (q2 = true ↔ itOk x m) from hq2.trans ⟨fun h => .inl ⟨fun e => h0.o (HL.o.1 e), HT1.o, h⟩, fun h => by
  rcases h with h | h
  · exact h.2.2
  exact absurd (HL.o.1 h.1) h0.o⟩)
 have HB2 := iH (bl_trans HB.o hb2);clear Z hq2 hb2 c1 c2 c3 c4;go_wp2;go_ret;exact Tells.of HE.o HB2.o
theorem l4pat_any (x : PB) (w : World) (h : x.lies 0 w) : Calls Tryz.prog 109 #[.agg x.ar] w (Tells (ptOk x) w) := by
 have HZ1 := iH (fun W (hb : Below _ w W) => l4item_any x.s 1 W (h.1.upper (uB hb)));have HZ2 := iH (fun W (hb : Below _ w W) => l4item_any x.p 0 W (h.2.1.upper (uB hb)));have HZ3 := iH (fun W (hb : Below _ w W) => l4item_any x.o 3 W (h.2.2.upper (uB hb)));clear h;go_in;have Z1 := HZ1.o;go_wp2_with fail
 refine (Z1 _ (bl_a _)).mono ?_;rintro e w1 ⟨q1, rfl, hq1, hb1⟩;have HX1 := iH ((Box.new w _ 39 _).below hb1);have HB1 := iH (bl_trans (bl_a _) hb1);have HQ1 := iH hq1;clear hb1 Z1 hq1;cases q1
 · have HF1 : Hd (¬ ptOk x) := fun hp => by have := HQ1.o.2 hp.1; cases this
   clear HQ1;go_wp2;go_ret;exact Tells.no (P := ptOk x) HF1.o HB1.o
 have HT1 := iH (HQ1.o.1 rfl);clear HQ1;have c5 := HX1.o.2 5 _ rfl;have c6 := HX1.o.2 6 _ rfl;have c7 := HX1.o.2 7 _ rfl;have c8 := HX1.o.2 8 _ rfl;have c9 := HX1.o.2 9 _ rfl;have Z2 := HZ2.o;go_wp2_with fail
 refine (Z2 _ HB1.o).mono ?_;rintro e w2 ⟨q2, rfl, hq2, hb2⟩;have HX2 := iH (HX1.o.below hb2);have HB2 := iH (bl_trans HB1.o hb2);have HQ2 := iH hq2;clear hb2 Z2 hq2 c5 c6 c7 c8 c9;cases q2
 · have HF2 : Hd (¬ ptOk x) := fun hp => by have := HQ2.o.2 hp.2.1; cases this
   clear HQ2;go_wp2;go_ret;exact Tells.no (P := ptOk x) HF2.o HB2.o
 have HT2 := iH (HQ2.o.1 rfl);clear HQ2;have c10 := HX2.o.2 10 _ rfl;have c11 := HX2.o.2 11 _ rfl;have c12 := HX2.o.2 12 _ rfl;have c13 := HX2.o.2 13 _ rfl;have c14 := HX2.o.2 14 _ rfl;have Z3 := HZ3.o;go_wp2_with fail
 refine (Z3 _ HB2.o).mono ?_;rintro e w3 ⟨q3, rfl, hq3, hb3⟩;have HB3 := iH (bl_trans HB2.o hb3);have HQ3 := iH hq3;clear hb3 Z3 hq3 c10 c11 c12 c13 c14;go_wp2;go_ret;exact Tells.of (P := ptOk x) ⟨fun h => ⟨HT1.o, HT2.o, HQ3.o.1 h⟩, fun h => HQ3.o.2 h.2.2⟩ HB3.o
def kidsN (k : Int) (n : Nat) : Int := if k = 0 ∨ k = 1 ∨ k = 4 then 0 else if k = 3 ∨ k = 7 then 1 else if k = 2 then 2 else if k = 5 then 3 else if k = 6 ∧ 1 ≤ n ∧ n ≤ 4 then n else -1
theorem kidsN_ok (k : Int) (n : Nat) : kidsN k n = n ↔ kOk k n := by
 unfold kidsN kOk;repeat' split
 all_goals omega
theorem l4kids_any (d : EN) (w : World) : Calls Tryz.prog 132 #[.agg d.ar] w fun e w' => e = .returned (.int .i64 (kidsN d.k d.n)) ∧ ∃ o, w' = w.alloc o := by
 go_in;go_wp2;all_goals go_ret
 all_goals refine ⟨?_, _, rfl⟩
 all_goals (unfold kidsN; simp_all <;> omega)
theorem l4zeroExpr_any (e : ET) (w : World) (h : e.lies 0 w) : Calls Tryz.prog 107 #[.agg e.d.ar] w (Tells (zeroE e) w) := by
 try unfold EN.ar EN.cl
 cases e with
 | nil => exact False.elim h
 | mk d kid =>
 obtain ⟨hv, ht, _⟩ := h;show Calls Tryz.prog 107 #[.agg d.ar] w (Tells (d.k = 0 ∧ d.op = 0 ∧ d.v.b = [] ∧ zeroT d.t.td ∧ d.n = 0) w);have HL := iH (nil_len hv.1.1);have HZ := iH (fun W (hb : Below _ w W) => l4zeroTerm_any d.t W (ht.upper (uB hb)));obtain ⟨P, hP⟩ : ∃ P, P = (d.k = 0 ∧ d.op = 0 ∧ d.v.b = [] ∧ zeroT d.t.td ∧ d.n = 0) := ⟨_, rfl⟩;have HP := iH (show (P ↔ _) by rw [hP]);rw [← hP];clear hv ht hP;by_cases h0 : d.k = 0;rotate_left
 · go_in
   go_wp2;go_ret;exact Tells.no (fun hp => h0 (HP.o.1 hp).1) (bl_a _)
 by_cases h1 : d.op = 0;rotate_left
 · go_in
   go_wp2;go_ret;exact Tells.no (fun hp => h1 (HP.o.1 hp).2.1) (bl_a _)
 by_cases h2 : d.v.len = 0;rotate_left
 · go_in
   go_wp2;go_ret;exact Tells.no (fun hp => h2 (HL.o.1 (HP.o.1 hp).2.2.1)) (bl_a _)
 have H3 : Hd (d.k = 0 ∧ d.op = 0 ∧ d.v.b = []) := ⟨h0, h1, HL.o.2 h2⟩;have Z := HZ.o;go_in;go_wp2_with fail
 refine (Z _ (bl_a _)).mono ?_;rintro e w1 ⟨q1, rfl, hq1, hb1⟩;have HQ := iH hq1;have HX : w1.cell? ⟨w.heap.size, 7, none⟩ = some (.slice d.ka d.n d.kc) := (hb1.cell (p := ⟨w.heap.size, 7, none⟩) (by simp)).trans (by simp [go_sem]);have HB := iH (bl_trans (bl_a _) hb1);clear Z hq1 hb1;cases q1
 · have HF : Hd (¬ P) := fun hp => by have := HQ.o.2 (HP.o.1 hp).2.2.2.1; cases this
   clear HQ;go_wp2;go_ret;exact Tells.no HF.o HB.o
 by_cases h5 : d.n = 0
 · have HY := iH (HP.o.2 ⟨H3.o.1, H3.o.2.1, H3.o.2.2, HQ.o.1 rfl, h5⟩)
   go_wp2;go_ret;exact Tells.yes HY.o HB.o
 have h5' : ((d.n : Int) == 0) = false := by simp; omega
 have HF : Hd (¬ P) := fun hp => h5 (HP.o.1 hp).2.2.2.2;clear HQ;go_wp2;go_ret;exact Tells.no HF.o HB.o
def Sw (l : Int) (n : Nat) (e : Ending) : Prop := ∃ r : Int, e = .returned (.int .i64 r) ∧ (r = -1 ∨ 0 ≤ r ∧ r ≤ 1048576 ∧ r + (n : Int) ≤ l)
def IB.wt (x : IB) : Nat := x.v.len + x.t.t.len
def PB.wt (x : PB) : Nat := x.s.wt + x.p.wt + x.o.wt
def ET.wt : ET → Nat
 | .nil => 0
 | .mk d kid => d.v.len + d.t.t.len + (d.n + sumN d.n (fun i => (kid i).wt))
def twt (tb : List TB) (k : Nat) : Nat := sumN k (fun j => (tb[j]?.map (fun x => x.t.len)).getD 0)
def SL.wt (x : SL) : Nat := x.len
theorem szByteS_w (x : SL) (l : Int) (w : World) (h1 : 0 ≤ l) (h2 : l ≤ 1048576) (h3 : x.len ≤ 9223372036854775807) :
 Calls Tryz.prog 24 #[.slice x.a x.len x.cap, .int .i64 l] w fun e w' => Sw l x.wt e ∧ Bl w w' := by
 refine (szByteS_any x.a x.len x.cap l w h1 h2 h3).mono ?_;rintro e w' ⟨rfl, rfl⟩;refine ⟨⟨_, rfl, ?_⟩, Below.refl _ _⟩;unfold SL.wt;by_cases h : l < x.len
 · exact .inl (if_pos h)
 rw [if_neg h];exact .inr ⟨by omega, by omega, by omega⟩
theorem szTerm_w (x : TB) (l : Int) (w : World) (h1 : 0 ≤ l) (h2 : l ≤ 1048576) (h3 : x.t.len ≤ 9223372036854775807) :
 Calls Tryz.prog 68 #[.agg #[.int .i64 x.t.k, .slice x.t.a x.t.len x.t.cap, .int .i64 x.t.n, .int .i64 x.t.s], .int .i64 l] w fun e w' => Sw l x.t.len e ∧ Bl w w' := by
 refine (szTerm_any x.t.k x.t.n x.t.s x.t.a x.t.len x.t.cap l w h1 h2 h3).mono ?_;rintro e w' ⟨rfl, hb⟩;refine ⟨⟨_, rfl, ?_⟩, hb⟩;unfold leftOf;by_cases h : l < x.t.len
 · exact .inl (if_pos h)
 rw [if_neg h];exact .inr ⟨by omega, by omega, by omega⟩
theorem szItem_w (x : IB) (l : Int) (w : World) (h1 : 0 ≤ l) (h2 : l ≤ 1048576) (hc : x.came w) :
 Calls Tryz.prog 104 #[.agg x.ar, .int .i64 l] w fun e w' => Sw l x.wt e ∧ Bl w w' := by
 have HZ1 : Hd (∀ (W : World) (l : Int), 0 ≤ l → l ≤ 1048576 → Bl w W → Cl 24 #[.slice x.v.a x.v.len x.v.cap, .int .i64 l] W fun e w' => Sw l (x.v.wt) e ∧ Bl W w') := fun W l h1 h2 hb => szByteS_w x.v l W h1 h2 hc.1.1;have HZ2 : Hd (∀ (W : World) (l : Int), 0 ≤ l → l ≤ 1048576 → Bl w W → Cl 68 #[.agg #[.int .i64 x.t.t.k, .slice x.t.t.a x.t.t.len x.t.t.cap, .int .i64 x.t.t.n, .int .i64 x.t.t.s], .int .i64 l] W fun e w' => Sw l (x.t.t.len) e ∧ Bl W w') := fun W l h1 h2 hb => szTerm_w x.t l W h1 h2 hc.2.1.1;clear hc;go_in;have Z1 := HZ1.o;go_wp2_with fail
 refine (Z1 _ l h1 h2 (bl_a _)).mono ?_;rintro e w1 ⟨⟨r1, rfl, hr1⟩, hb1⟩;have HX1 : Hd (Box w1 w.heap.size x.cl) := (Box.new w x.ar 63 _).below hb1;have HB1 := iH (bl_trans (bl_a _) hb1);clear hb1 Z1 ;rcases hr1 with rfl | ⟨p1, q1, s1⟩
 · go_wp2
   go_ret;exact ⟨⟨-1, rfl, .inl rfl⟩, HB1.o⟩
 have n1 : ¬ r1 < 0 := by omega
 have HS1 := iH s1;clear s1;have ld : w1.rangeAt w.heap.size 1 [.int .i64 x.t.t.k, .slice x.t.t.a x.t.t.len x.t.t.cap, .int .i64 x.t.t.n, .int .i64 x.t.t.s] := HX1.o.range 1 _ rfl;have Z2 := HZ2.o;go_wp2_with (refine ldn Tryz.underlying25 ld ?_)
 refine (Z2 _ r1 p1 q1 HB1.o).mono ?_;rintro e w2 ⟨⟨r2, rfl, hr2⟩, hb2⟩;have HX2 := iH (HX1.o.below hb2);have HB2 := iH (bl_trans HB1.o hb2);clear hb2 Z2 ld HX1 HB1;rcases hr2 with rfl | ⟨p2, q2, s2⟩
 · go_wp2
   go_ret;exact ⟨⟨-1, rfl, .inl rfl⟩, HB2.o⟩
 have n2 : ¬ r2 < 0 := by omega
 have HS2 := iH s2;clear s2;go_wp2;go_ret;exact ⟨⟨r2, rfl, .inr ⟨p2, q2, (show r2 + ((x.v.wt + x.t.t.len : Nat) : Int) ≤ l by have a1 := HS1.o; have a2 := HS2.o; omega)⟩⟩, HB2.o⟩
theorem szPat_w (x : PB) (l : Int) (w : World) (h1 : 0 ≤ l) (h2 : l ≤ 1048576) (hc : x.came w) :
 Calls Tryz.prog 59 #[.agg x.ar, .int .i64 l] w fun e w' => Sw l x.wt e ∧ Bl w w' := by
 have HZ1 : Hd (∀ (W : World) (l : Int), 0 ≤ l → l ≤ 1048576 → Bl w W → Cl 104 #[.agg x.s.ar, .int .i64 l] W fun e w' => Sw l (x.s.wt) e ∧ Bl W w') := fun W l h1 h2 hb => szItem_w x.s l W h1 h2 (hc.1.below hb);have HZ2 : Hd (∀ (W : World) (l : Int), 0 ≤ l → l ≤ 1048576 → Bl w W → Cl 104 #[.agg x.p.ar, .int .i64 l] W fun e w' => Sw l (x.p.wt) e ∧ Bl W w') := fun W l h1 h2 hb => szItem_w x.p l W h1 h2 (hc.2.1.below hb);have HZ3 : Hd (∀ (W : World) (l : Int), 0 ≤ l → l ≤ 1048576 → Bl w W → Cl 104 #[.agg x.o.ar, .int .i64 l] W fun e w' => Sw l (x.o.wt) e ∧ Bl W w') := fun W l h1 h2 hb => szItem_w x.o l W h1 h2 (hc.2.2.below hb);clear hc;go_in;have Z1 := HZ1.o;go_wp2_with fail
 refine (Z1 _ l h1 h2 (bl_a _)).mono ?_;rintro e w1 ⟨⟨r1, rfl, hr1⟩, hb1⟩;have HX1 : Hd (Box w1 w.heap.size x.cl) := (Box.new w x.ar 65 _).below hb1;have HB1 := iH (bl_trans (bl_a _) hb1);clear hb1 Z1 ;rcases hr1 with rfl | ⟨p1, q1, s1⟩
 · go_wp2
   go_ret;exact ⟨⟨-1, rfl, .inl rfl⟩, HB1.o⟩
 have n1 : ¬ r1 < 0 := by omega
 have HS1 := iH s1;clear s1;have ld : w1.rangeAt w.heap.size 5 x.p.cl := HX1.o.range 5 _ rfl;have Z2 := HZ2.o;go_wp2_with (refine ldn Tryz.underlying63 ld ?_)
 refine (Z2 _ r1 p1 q1 HB1.o).mono ?_;rintro e w2 ⟨⟨r2, rfl, hr2⟩, hb2⟩;have HX2 := iH (HX1.o.below hb2);have HB2 := iH (bl_trans HB1.o hb2);clear hb2 Z2 ld HX1 HB1;rcases hr2 with rfl | ⟨p2, q2, s2⟩
 · go_wp2
   go_ret;exact ⟨⟨-1, rfl, .inl rfl⟩, HB2.o⟩
 have n2 : ¬ r2 < 0 := by omega
 have HS2 := iH s2;clear s2;have ld : w2.rangeAt w.heap.size 10 x.o.cl := HX2.o.range 10 _ rfl;have Z3 := HZ3.o;go_wp2_with (refine ldn Tryz.underlying63 ld ?_)
 refine (Z3 _ r2 p2 q2 HB2.o).mono ?_;rintro e w3 ⟨⟨r3, rfl, hr3⟩, hb3⟩;have HX3 := iH (HX2.o.below hb3);have HB3 := iH (bl_trans HB2.o hb3);clear hb3 Z3 ld HX2 HB2;rcases hr3 with rfl | ⟨p3, q3, s3⟩
 · go_wp2
   go_ret;exact ⟨⟨-1, rfl, .inl rfl⟩, HB3.o⟩
 have n3 : ¬ r3 < 0 := by omega
 have HS3 := iH s3;clear s3;go_wp2;go_ret;exact ⟨⟨r3, rfl, .inr ⟨p3, q3, (show r3 + ((x.s.wt + x.p.wt + x.o.wt : Nat) : Int) ≤ l by have a1 := HS1.o; have a2 := HS2.o; have a3 := HS3.o; omega)⟩⟩, HB3.o⟩
theorem szExprS_w (a : Option Addr) (cap n : Nat) (kid : Nat → ET) (l : Int) (w : World) (h1 : 0 ≤ l) (h2 : l ≤ 1048576) (hn : n ≤ 9223372036854775807) (hR : KRow 0 w 8 a n (fun i => (kid i).d.cells))
 (IH : ∀ i, i < n → ∀ (W : World) (l : Int), 0 ≤ l → l ≤ 1048576 → Bl w W → Calls Tryz.prog 23 #[.agg (kid i).d.ar, .int .i64 l] W fun e w' => Sw l (kid i).wt e ∧ Bl W w') :
 Calls Tryz.prog 69 #[.slice a n cap, .int .i64 l] w fun e w' => Sw l (n + sumN n (fun i => (kid i).wt)) e ∧ Bl w w' := by
 try unfold EN.ar EN.cl
 by_cases hbig : l < n
 · clear hR IH
   go_in;go_wp2;go_ret;exact ⟨⟨-1, rfl, .inl rfl⟩, Below.refl _ _⟩
 by_cases hn0 : n = 0
 · subst hn0
   clear hR IH hn hbig;have hbig : ¬ l < 0 := by omega
   go_in;go_wp2;refine wl1 ?_;go_wp2;go_ret;exact ⟨⟨_, rfl, .inr ⟨by omega, by omega, by simp [sumN]⟩⟩, Below.refl _ _⟩
 obtain ⟨b, off, rfl, _, hlt, hc⟩ := hR.resolve_left hn0;have HC := iH hc;have HI := iH IH;clear hR hc IH;go_in;go_wp2;go_loopw [1, 5] (fun x i wr => ∃ (k : Nat) (r : Int), k ≤ n ∧ i = .int .i64 k ∧ x = .int .i64 r ∧ 0 ≤ r ∧ r ≤ 1048576 ∧ Hd (Bl w wr) ∧ Hd (r + ((n + sumN k (fun i => (kid i).wt) : Nat) : Int) ≤ l))
  (fun _ i _ => n - (intOf i).toNat)
 case atStart => exact ⟨0, _, nZ, rfl, rfl, by omega, by omega, Below.refl _ _, (show _ ≤ _ by simp only [sumN]; omega)⟩
 obtain ⟨k, r, hk, rfl, rfl, hr0, hr1, HB, HH⟩ := hrel;by_cases hlk : k < n
 · have hcx : ∀ c u, ((kid k).d.cells)[c]? = some u → wr.cell? ⟨b, off + k * 8 + c, none⟩ = some u := fun c u hu => (HB.o.cell (p := ⟨b, off + k * 8 + c, none⟩) hlt).trans (HC.o k hlk c u hu)
   have hin : (Tryz.prog.info? 28).map (·.size) = some 8 := by kernel_rfl
   have Z := HI.o k hlk;go_wp2_with (refine wpList_load_mid rfl 28 _ rfl b (off + k * 8) rfl (kid k).d.cl _ hcx Tryz.underlying28 rfl hin ?_; try simp only [Act.put, sA, zA, cA])
   refine (Z _ r hr0 hr1 HB.o).mono ?_;rintro e w2 ⟨⟨q, rfl, hq⟩, hb2⟩;have HB2 := iH (bl_trans HB.o hb2);clear hcx hin Z hb2 HB;rcases hq with rfl | ⟨z1, z2, z3⟩
   · go_wp2
     go_ret;exact ⟨⟨-1, rfl, .inl rfl⟩, HB2.o⟩
   have HZ3 := iH z3;have nq : ¬ q < 0 := by omega
   clear z3;go_wp2;go_roundw
   case rel =>
    refine ⟨k + 1, q, by omega, by go_num, rfl, by omega, by omega, HB2, ?_⟩
    have a1 := HH.o;have a2 := HZ3.o;show q + ((n + (sumN k (fun i => (kid i).wt) + (kid k).wt) : Nat) : Int) ≤ l;omega
   case measure => simp [intOf]; omega
 obtain rfl : k = n := by omega
 go_wp2;go_ret;exact ⟨⟨r, rfl, .inr ⟨hr0, hr1, HH.o⟩⟩, HB.o⟩
theorem szExpr_w (e : ET) : ∀ (l : Int) (w : World), 0 ≤ l → l ≤ 1048576 → e.came w → Calls Tryz.prog 23 #[.agg e.d.ar, .int .i64 l] w fun r w' => Sw l e.wt r ∧ Bl w w' := by
 induction e with
 | nil => exact fun _ _ _ _ h => False.elim h
 | mk d kid ih =>
  intro l w h1 h2 hc;show Calls Tryz.prog 23 #[.agg d.ar, .int .i64 l] w fun r w' => Sw l (d.v.len + d.t.t.len + (d.n + sumN d.n (fun i => (kid i).wt))) r ∧ Bl w w';obtain ⟨hv, ht, _, hn, hR, hk⟩ := hc;have HZ1 : Hd (∀ (W : World) (l : Int), 0 ≤ l → l ≤ 1048576 → Bl w W → Cl 24 #[.slice d.v.a d.v.len d.v.cap, .int .i64 l] W fun e w' => Sw l (d.v.len) e ∧ Bl W w') := fun W l h1 h2 hb => szByteS_w d.v l W h1 h2 hv.1;have HZ2 : Hd (∀ (W : World) (l : Int), 0 ≤ l → l ≤ 1048576 → Bl w W → Cl 68 #[.agg #[.int .i64 d.t.t.k, .slice d.t.t.a d.t.t.len d.t.t.cap, .int .i64 d.t.t.n, .int .i64 d.t.t.s], .int .i64 l] W fun e w' => Sw l (d.t.t.len) e ∧ Bl W w') := fun W l h1 h2 hb => szTerm_w d.t l W h1 h2 ht.1;have HZ3 : Hd (∀ (W : World) (l : Int), 0 ≤ l → l ≤ 1048576 → Bl w W → Cl 69 #[.slice d.ka d.n d.kc, .int .i64 l] W fun e w' => Sw l (d.n + sumN d.n (fun i => (kid i).wt)) e ∧ Bl W w') := fun W l h1 h2 hb => szExprS_w d.ka d.kc d.n kid l W h1 h2 hn (hR.upper (uB hb)) fun i hi W' l' a1 a2 hW => ih i l' W' a1 a2 (ET.came.below (bl_trans hb hW) (hk i hi));clear hv ht hR hk ih hn;go_in;have Z1 := HZ1.o;go_wp2_with fail
  refine (Z1 _ l h1 h2 (bl_a _)).mono ?_;rintro e w1 ⟨⟨r1, rfl, hr1⟩, hb1⟩;have HX1 : Hd (Box w1 w.heap.size d.cl) := (Box.new w d.ar 28 _).below hb1;have HB1 := iH (bl_trans (bl_a _) hb1);clear hb1 Z1 ;rcases hr1 with rfl | ⟨p1, q1, s1⟩
  · go_wp2
    go_ret;exact ⟨⟨-1, rfl, .inl rfl⟩, HB1.o⟩
  have n1 : ¬ r1 < 0 := by omega
  have HS1 := iH s1;clear s1;have ld : w1.rangeAt w.heap.size 3 [.int .i64 d.t.t.k, .slice d.t.t.a d.t.t.len d.t.t.cap, .int .i64 d.t.t.n, .int .i64 d.t.t.s] := HX1.o.range 3 _ rfl;have Z2 := HZ2.o;go_wp2_with (refine ldn Tryz.underlying25 ld ?_)
  refine (Z2 _ r1 p1 q1 HB1.o).mono ?_;rintro e w2 ⟨⟨r2, rfl, hr2⟩, hb2⟩;have HX2 := iH (HX1.o.below hb2);have HB2 := iH (bl_trans HB1.o hb2);clear hb2 Z2 ld HX1 HB1;rcases hr2 with rfl | ⟨p2, q2, s2⟩
  · go_wp2
    go_ret;exact ⟨⟨-1, rfl, .inl rfl⟩, HB2.o⟩
  have n2 : ¬ r2 < 0 := by omega
  have HS2 := iH s2;clear s2;have ld := HX2.o.2 7 _ rfl;have Z3 := HZ3.o;go_wp2_with fail
  refine (Z3 _ r2 p2 q2 HB2.o).mono ?_;rintro e w3 ⟨⟨r3, rfl, hr3⟩, hb3⟩;have HX3 := iH (HX2.o.below hb3);have HB3 := iH (bl_trans HB2.o hb3);clear hb3 Z3 ld HX2 HB2;rcases hr3 with rfl | ⟨p3, q3, s3⟩
  · go_wp2
    go_ret;exact ⟨⟨-1, rfl, .inl rfl⟩, HB3.o⟩
  have n3 : ¬ r3 < 0 := by omega
  have HS3 := iH s3;clear s3;go_wp2;go_ret;exact ⟨⟨r3, rfl, .inr ⟨p3, q3, (show r3 + ((d.v.len + d.t.t.len + (d.n + sumN d.n (fun i => (kid i).wt)) : Nat) : Int) ≤ l by have a1 := HS1.o; have a2 := HS2.o; have a3 := HS3.o; omega)⟩⟩, HB3.o⟩
theorem szTermS_w (a : Option Addr) (cap : Nat) (tb : List TB) (l : Int) (w : World) (h1 : 0 ≤ l) (h2 : l ≤ 1048576) (hc : TCm w a tb) :
 Calls Tryz.prog 25 #[.slice a tb.length cap, .int .i64 l] w fun e w' => Sw l (tb.length + twt tb tb.length) e ∧ Bl w w' := by
 obtain ⟨hR, hn, hl⟩ := hc;obtain ⟨n, hnn⟩ : ∃ n, n = tb.length := ⟨_, rfl⟩;have HN := iH hnn;rw [← hnn] at hn;rw [← hnn];by_cases hbig : l < n
 · clear hR hl
   go_in;go_wp2;go_ret;exact ⟨⟨-1, rfl, .inl rfl⟩, Below.refl _ _⟩
 by_cases hn0 : n = 0
 · subst hn0
   clear hR hl hnn HN hn hbig;have hbig : ¬ l < 0 := by omega
   go_in;go_wp2;refine wl1 ?_;go_wp2;go_ret;exact ⟨⟨_, rfl, .inr ⟨by omega, by omega, by simp [twt, sumN]⟩⟩, Below.refl _ _⟩
 have ht0 : tb ≠ [] := by
  intro e;rw [e] at hnn;exact hn0 (by simpa using hnn)
 obtain ⟨b, off, rfl, hlt, hc⟩ := hR.resolve_left ht0;have HC := iH hc;have HL : Hd (∀ x ∈ tb, x.t.len ≤ 9223372036854775807) := fun x hx => (hl x hx).1.1;clear hR hl hc hnn ht0;go_in;go_wp2;go_loopw [1, 5] (fun x i wr => ∃ (k : Nat) (r : Int), k ≤ n ∧ i = .int .i64 k ∧ x = .int .i64 r ∧ 0 ≤ r ∧ r ≤ 1048576 ∧ Hd (Bl w wr) ∧ Hd (r + ((n + twt tb k : Nat) : Int) ≤ l))
  (fun _ i _ => n - (intOf i).toNat)
 case atStart => exact ⟨0, _, nZ, rfl, rfl, by omega, by omega, Below.refl _ _, (show _ ≤ _ by simp only [twt, sumN]; omega)⟩
 obtain ⟨k, r, hk, rfl, rfl, hr0, hr1, HB, HH⟩ := hrel;by_cases hlk : k < n
 · have hkl : k < tb.length := by rw [← HN.o]; exact hlk
   obtain ⟨x, hx⟩ : ∃ x, x = tb[k] := ⟨_, rfl⟩;have HX : Hd (tb[k]? = some x) := (show tb[k]? = some x by rw [hx]; exact List.getElem?_eq_getElem hkl);have hcx := TRow.at (l := tb) (b := b) (off := off) (w := wr) (fun j u hu => (HB.o.cell (p := ⟨b, off + j, none⟩) hlt).trans (HC.o j u hu)) k hkl;rw [← hx] at hcx;obtain ⟨x0, x1, x2, x3⟩ := hcx;have Z := fun w => szTerm_w x r w hr0 hr1 (HL.o x (List.mem_of_getElem? HX.o));clear hx hkl;go_wp2_with fail
   refine (Z _).mono ?_;rintro e w2 ⟨⟨q, rfl, hq⟩, hb2⟩;have HB2 := iH (bl_trans HB.o hb2);clear x0 x1 x2 x3 Z hb2 HB;rcases hq with rfl | ⟨z1, z2, z3⟩
   · go_wp2
     go_ret;exact ⟨⟨-1, rfl, .inl rfl⟩, HB2.o⟩
   have HZ3 := iH z3;have nq : ¬ q < 0 := by omega
   clear z3;go_wp2;go_roundw
   case rel =>
    refine ⟨k + 1, q, by omega, by go_num, rfl, by omega, by omega, HB2, ?_⟩
    have a1 := HH.o;have a2 := HZ3.o;have a3 : twt tb (k + 1) = twt tb k + x.t.len := by
     show twt tb k + (tb[k]?.map (fun x => x.t.len)).getD 0 = _;rw [HX.o];rfl
    show q + ((n + twt tb (k + 1) : Nat) : Int) ≤ l;omega
   case measure => simp [intOf]; omega
 obtain rfl : k = n := by omega
 go_wp2;go_ret;exact ⟨⟨r, rfl, .inr ⟨hr0, hr1, HH.o⟩⟩, HB.o⟩
def WN (w : World) (g j : Nat) : Prop := N64 w g j ∧ w.frozen? ⟨g, j, none⟩ = false
def WO (w : World) (g j : Nat) : Prop := Bo w g j ∧ w.frozen? ⟨g, j, none⟩ = false
theorem WN.kb {j : Nat} (h : WN w g j) (k : KB w w') : WN w' g j := ⟨k.i _ _ h.1, (k.f _).trans h.2⟩
structure EM (B C : Nat) (w : World) (g o : Nat) (d : EN) : Prop where
 hB : B ≤ g
 hC : g < C
 n0 : WN w g (o)
 n1 : WN w g (o + 1)
 n3 : WN w g (o + 3)
 n5 : WN w g (o + 5)
 n6 : WN w g (o + 6)
 s2 : w.cell? ⟨g, o + 2, none⟩ = some (.slice d.v.a d.v.len d.v.cap)
 t2 : TxM B C w d.v.a d.v.len
 s4 : w.cell? ⟨g, o + 4, none⟩ = some (.slice d.t.t.a d.t.t.len d.t.t.cap)
 t4 : TxM B C w d.t.t.a d.t.t.len
 s7 : w.cell? ⟨g, o + 7, none⟩ = some (.slice d.ka d.n d.kc)
theorem EM.kb {d : EN} (h : EM B C w g o d) (k : KB w w') : EM B C w' g o d :=
 ⟨h.hB, h.hC, h.n0.kb k, h.n1.kb k, h.n3.kb k, h.n5.kb k, h.n6.kb k, k.s _ _ _ _ _ h.s2, h.t2.kb k, k.s _ _ _ _ _ h.s4, h.t4.kb k, k.s _ _ _ _ _ h.s7⟩
def KM (B C : Nat) (w : World) : ET → Prop
 | .nil => True
 | .mk d kid => d.n = 0 ∨ ∃ g, d.ka = some ⟨g, 0, none⟩ ∧ ∀ i, i < d.n → EM B C w g (i * 8) (kid i).d ∧ KM B C w (kid i)
theorem KM.kb (h : KM B C w e) (k : KB w w') : KM B C w' e := by
 induction e with
 | nil => exact trivial
 | mk d kid ih =>
  rcases h with h | ⟨g, ha, hx⟩
  · exact .inl h
  exact .inr ⟨g, ha, fun i hi => ⟨(hx i hi).1.kb k, ih i (hx i hi).2⟩⟩
def XM (B C : Nat) (w : World) (a : Option Addr) (n : Nat) (kid : Nat → ET) : Prop := n = 0 ∨ ∃ g, a = some ⟨g, 0, none⟩ ∧ ∀ i, i < n → EM B C w g (i * 8) (kid i).d ∧ KM B C w (kid i)
def IB.own (B : Nat) (w : World) (x : IB) : Prop := x.lies B w ∧ TxW B w x.v ∧ TxW B w x.t.sl
def PB.own (B : Nat) (w : World) (x : PB) : Prop := x.s.own B w ∧ x.p.own B w ∧ x.o.own B w
def TB.own (B : Nat) (w : World) (x : TB) : Prop := (BsF B w x.sl ∧ x.t.fits) ∧ TxW B w x.sl
theorem IB.own.upper {x : IB} (h : x.own B w) (hu : Upper B w w') : x.own B w' := ⟨h.1.upper hu, h.2.1.upper hu, h.2.2.upper hu⟩
theorem IB.own.base {x : IB} (h : x.own B w) (hB : B' ≤ B) : x.own B' w := ⟨h.1.base hB, h.2.1.base hB, h.2.2.base hB⟩
theorem PB.own.upper (h : x.own B w) (hu : Upper B w w') : x.own B w' := ⟨h.1.upper hu, h.2.1.upper hu, h.2.2.upper hu⟩
theorem PB.own.base (h : x.own B w) (hB : B' ≤ B) : x.own B' w := ⟨h.1.base hB, h.2.1.base hB, h.2.2.base hB⟩
theorem PB.own.lies (h : x.own B w) : x.lies B w := ⟨h.1.1, h.2.1.1, h.2.2.1⟩
theorem TB.own.upper {x : TB} (h : x.own B w) (hu : Upper B w w') : x.own B w' := ⟨⟨h.1.1.upper hu, h.1.2⟩, h.2.upper hu⟩
theorem TB.own.base {x : TB} (h : x.own B w) (hB : B' ≤ B) : x.own B' w := ⟨⟨h.1.1.base hB, h.1.2⟩, h.2.base hB⟩
def RoW (B : Nat) (w : World) (a : Option Addr) (m : Nat) : Prop := ∃ g, a = some ⟨g, 0, none⟩ ∧ FrW B w g m
theorem RoW.upper (h : RoW B w a m) (hu : Upper B w w') : RoW B w' a m := h.imp fun _ h => ⟨h.1, h.2.upper hu⟩
theorem RoW.base (h : RoW B w a m) (hB : B' ≤ B) : RoW B' w a m := h.imp fun _ h => ⟨h.1, h.2.base hB⟩
def TsW (B : Nat) (w : World) (a : Option Addr) (l : List TB) : Prop := RoW B w a (l.length * 4) ∧ ∀ x ∈ l, TxW B w x.sl
theorem TsW.upper (h : TsW B w a l) (hu : Upper B w w') : TsW B w' a l := ⟨h.1.upper hu, fun x hx => (h.2 x hx).upper hu⟩
theorem TsW.base (h : TsW B w a l) (hB : B' ≤ B) : TsW B' w a l := ⟨h.1.base hB, fun x hx => (h.2 x hx).base hB⟩
def ET.wr (B : Nat) (w : World) : ET → Prop
 | .nil => False
 | .mk d kid => TxW B w d.v ∧ TxW B w d.t.sl ∧ RoW B w d.ka (d.n * 8) ∧ ∀ i, i < d.n → (kid i).wr B w
theorem ET.wr.upper (h : e.wr B w) (hu : Upper B w w') : e.wr B w' := by
 induction e with
 | nil => exact False.elim h
 | mk d kid ih => exact ⟨h.1.upper hu, h.2.1.upper hu, h.2.2.1.upper hu, fun i hi => ih i (h.2.2.2 i hi)⟩
theorem ET.wr.base (h : e.wr B w) (hB : B' ≤ B) : e.wr B' w := by
 induction e with
 | nil => exact False.elim h
 | mk d kid ih => exact ⟨h.1.base hB, h.2.1.base hB, h.2.2.1.base hB, fun i hi => ih i (h.2.2.2 i hi)⟩
def ET.own (B : Nat) (w : World) (e : ET) : Prop := e.lies B w ∧ e.wr B w
theorem ET.own.upper (h : e.own B w) (hu : Upper B w w') : e.own B w' := ⟨ET.lies.upper hu h.1, h.2.upper hu⟩
theorem ET.own.base (h : e.own B w) (hB : B' ≤ B) : e.own B' w := ⟨ET.lies.base hB h.1, h.2.base hB⟩
theorem toItemW (x : IB) (w : World) (h : x.lies 0 w) : Calls Tryz.prog 105 #[.agg x.ar] w fun e w' => ∃ y : IB, e = .returned (.agg y.ar) ∧ y.own w.heap.size w' ∧ x.same y ∧ Bl w w' := by
 have HZ1 := iH (fun (W : World) (hb : Below _ w W) => toByteSW x.v W (h.1.upper (uB hb)));have HZ2 := iH (fun (W : World) (hb : Below _ w W) => toTermW x.t W (h.2.1.upper (uB hb)) h.2.2);clear h;go_in;have Z1 := HZ1.o;go_wp2_with fail
 refine (Z1 _ (bl_alloc (bl_alloc (bl_a _) _) _)).mono ?_;rintro e w1 ⟨y1, rfl, hy1, he1, hb1⟩;have HT := iH ((TS.new w _ _ _ 63 37 37).below hb1);have e3 : (w.heap.size + 1 + 1 + 1) ≤ (((w.alloc (.cells x.ar 63)).alloc (.cells #[.slice none 0 0, .int .i64 0, .slice none 0 0, .int .i64 0, .int .i64 0] 37)).alloc (.cells #[.slice none 0 0, .int .i64 0, .slice none 0 0, .int .i64 0, .int .i64 0] 37)).heap.size := by simp
 have HM1 := iH ((hy1.base e3).upper (upper_set (w := w1) (g := w.heap.size + 1 + 1) (i := 0) (.slice y1.a y1.len y1.cap)));have HE1 := iH he1;have HTn : Hd (TS w (w1.setCell ⟨w.heap.size + 1 + 1, 0, none⟩ (.slice y1.a y1.len y1.cap)) x.cl [.slice none 0 0, .int .i64 0, .slice none 0 0, .int .i64 0, .int .i64 0] [.slice y1.a y1.len y1.cap, .int .i64 0, .slice none 0 0, .int .i64 0, .int .i64 0]) := HT.o.set 0 _;have st0 := (HT.o.ox.2 0 _ rfl).1;have st1 := (HT.o.ox.2 0 _ rfl).2;clear hy1 he1 hb1 e3 Z1 HZ1;go_upto_region 3 with fail
 clear st0 st1 HT;generalize w1.setCell _ _ = W1 at *;have HT := HTn;clear HTn;have ld : W1.rangeAt w.heap.size 1 [.int .i64 x.t.t.k, .slice x.t.t.a x.t.t.len x.t.t.cap, .int .i64 x.t.t.n, .int .i64 x.t.t.s] := HT.o.px.range 1 _ rfl;have Z2 := HZ2.o;go_wp2_with (refine ldn Tryz.underlying25 ld ?_)
 refine (Z2 _ HT.o.bl).mono ?_;rintro e w2 ⟨y2, rfl, hy2, hw2, hf2, he2, hb2⟩;have e3 := HT.o.base;have HT := iH (HT.o.below hb2);have HM2 := iH ((hy2.base e3).upper (upper_sets (w.heap.size + 1 + 1) [.int .i64 y2.t.k, .slice y2.t.a y2.t.len y2.t.cap, .int .i64 y2.t.n, .int .i64 y2.t.s] 1 w2));have HW2 := iH ((hw2.base e3).upper (upper_sets (w.heap.size + 1 + 1) [.int .i64 y2.t.k, .slice y2.t.a y2.t.len y2.t.cap, .int .i64 y2.t.n, .int .i64 y2.t.s] 1 w2));have HM1 := iH ((HM1.o.upper (uB hb2)).upper (upper_sets (w.heap.size + 1 + 1) [.int .i64 y2.t.k, .slice y2.t.a y2.t.len y2.t.cap, .int .i64 y2.t.n, .int .i64 y2.t.s] 1 w2));have HE2 := iH he2;have HF2 := iH hf2;have HTn : Hd (TS w (w2.setCells (w.heap.size + 1 + 1) 1 [.int .i64 y2.t.k, .slice y2.t.a y2.t.len y2.t.cap, .int .i64 y2.t.n, .int .i64 y2.t.s]) x.cl [.slice none 0 0, .int .i64 0, .slice none 0 0, .int .i64 0, .int .i64 0] [.slice y1.a y1.len y1.cap, .int .i64 y2.t.k, .slice y2.t.a y2.t.len y2.t.cap, .int .i64 y2.t.n, .int .i64 y2.t.s]) := HT.o.sets 1 _;have st0 := HT.o.ox.there 1 4 (by simp);have one1 := all_oneCell_toArray (cs := [.int .i64 y2.t.k, .slice y2.t.a y2.t.len y2.t.cap, .int .i64 y2.t.n, .int .i64 y2.t.s]) (by simp [Value.oneCell']);clear hy2 hw2 he2 hf2 hb2 e3 Z2 HZ2 ld;go_upto_region 4 with (refine wpList_store_mid rfl 35 _ _ rfl (w.heap.size + 1 + 1) 1 #[.int .i64 y2.t.k, .slice y2.t.a y2.t.len y2.t.cap, .int .i64 y2.t.n, .int .i64 y2.t.s] rfl rfl st0 (by kernel_rfl) one1 ?_; try simp only [Act.put])
 clear st0 one1 HT;generalize w2.setCells _ _ _ = W2 at *;have HT := HTn;clear HTn;have ld : W2.rangeAt (w.heap.size + 1 + 1) 0 [.slice y1.a y1.len y1.cap, .int .i64 y2.t.k, .slice y2.t.a y2.t.len y2.t.cap, .int .i64 y2.t.n, .int .i64 y2.t.s] := HT.o.ox.box.range 0 _ rfl;have st0 := HT.o.rz.there 0 5 (by simp);have one1 := all_oneCell_toArray (cs := [.slice y1.a y1.len y1.cap, .int .i64 y2.t.k, .slice y2.t.a y2.t.len y2.t.cap, .int .i64 y2.t.n, .int .i64 y2.t.s]) (by simp [Value.oneCell']);go_wp2_with (first | (refine ldn Tryz.underlying37 ld ?_) | (refine wpList_store_mid rfl 37 _ _ rfl (w.heap.size + 1) 0 #[.slice y1.a y1.len y1.cap, .int .i64 y2.t.k, .slice y2.t.a y2.t.len y2.t.cap, .int .i64 y2.t.n, .int .i64 y2.t.s] rfl rfl st0 (by kernel_rfl) one1 ?_; try simp only [Act.put]))
 have hrd : (W2.setCells (w.heap.size + 1) 0 [.slice y1.a y1.len y1.cap, .int .i64 y2.t.k, .slice y2.t.a y2.t.len y2.t.cap, .int .i64 y2.t.n, .int .i64 y2.t.s]).rangeAt (w.heap.size + 1) 0 [.slice y1.a y1.len y1.cap, .int .i64 y2.t.k, .slice y2.t.a y2.t.len y2.t.cap, .int .i64 y2.t.n, .int .i64 y2.t.s] := World.rangeAt_setCells_same _ _ _ _ st0;refine bodyPost_ret (v := .agg #[.slice y1.a y1.len y1.cap, .int .i64 y2.t.k, .slice y2.t.a y2.t.len y2.t.cap, .int .i64 y2.t.n, .int .i64 y2.t.s]) ?hr rfl ?hp
 case hr => exact results_cell rfl rfl (run_loadVar_mid (P := Tryz.prog) _ (w.heap.size + 1) 0 37 [.slice y1.a y1.len y1.cap, .int .i64 y2.t.k, .slice y2.t.a y2.t.len y2.t.cap, .int .i64 y2.t.n, .int .i64 y2.t.s] _ hrd Tryz.underlying37 rfl (by kernel_rfl))
 have HM2f : BsF w.heap.size (W2.setCells (w.heap.size + 1) 0 [.slice y1.a y1.len y1.cap, .int .i64 y2.t.k, .slice y2.t.a y2.t.len y2.t.cap, .int .i64 y2.t.n, .int .i64 y2.t.s]) y2.sl := ((HM2.o.upper ((upper_sets _ _ 0 W2).mono (by omega))).base (by omega));have HW2f : TxW w.heap.size (W2.setCells (w.heap.size + 1) 0 [.slice y1.a y1.len y1.cap, .int .i64 y2.t.k, .slice y2.t.a y2.t.len y2.t.cap, .int .i64 y2.t.n, .int .i64 y2.t.s]) y2.sl := ((HW2.o.upper ((upper_sets _ _ 0 W2).mono (by omega))).base (by omega));have HM1f : y1.own w.heap.size (W2.setCells (w.heap.size + 1) 0 [.slice y1.a y1.len y1.cap, .int .i64 y2.t.k, .slice y2.t.a y2.t.len y2.t.cap, .int .i64 y2.t.n, .int .i64 y2.t.s]) := ((HM1.o.upper ((upper_sets _ _ 0 W2).mono (by omega))).base (by omega));have hbf : Bl w (W2.setCells (w.heap.size + 1) 0 [.slice y1.a y1.len y1.cap, .int .i64 y2.t.k, .slice y2.t.a y2.t.len y2.t.cap, .int .i64 y2.t.n, .int .i64 y2.t.s]) := below_sets _ (by omega) _ _ _ HT.o.bl;exact ⟨⟨y1, y2⟩, rfl, ⟨⟨HM1f.1, HM2f, HF2.o⟩, HM1f.2, HW2f⟩, ⟨HE1.o, HE2.o⟩, hbf⟩
theorem toPatW (x : PB) (w : World) (h : x.lies 0 w) : Calls Tryz.prog 63 #[.agg x.ar] w fun e w' => ∃ y : PB, e = .returned (.agg y.ar) ∧ y.own w.heap.size w' ∧ x.same y ∧ Bl w w' := by
 have HZ1 := iH (fun (W : World) (hb : Below _ w W) => toItemW x.s W (h.1.upper (uB hb)));have HZ2 := iH (fun (W : World) (hb : Below _ w W) => toItemW x.p W (h.2.1.upper (uB hb)));have HZ3 := iH (fun (W : World) (hb : Below _ w W) => toItemW x.o W (h.2.2.upper (uB hb)));clear h;go_in;have Z1 := HZ1.o;go_wp2_with fail
 refine (Z1 _ (bl_alloc (bl_alloc (bl_a _) _) _)).mono ?_;rintro e w1 ⟨y1, rfl, hy1, he1, hb1⟩;have HT := iH ((TS.new w _ _ _ 65 39 39).below hb1);have e3 : (w.heap.size + 1 + 1 + 1) ≤ (((w.alloc (.cells x.ar 65)).alloc (.cells zPa 39)).alloc (.cells zPa 39)).heap.size := by simp
 have HM1 := iH ((hy1.base e3).upper (upper_sets (w.heap.size + 1 + 1) y1.cl 0 w1));have HE1 := iH he1;have HTn : Hd (TS w (w1.setCells (w.heap.size + 1 + 1) 0 y1.cl) x.cl zPl [.slice y1.v.a y1.v.len y1.v.cap, .int .i64 y1.t.t.k, .slice y1.t.t.a y1.t.t.len y1.t.t.cap, .int .i64 y1.t.t.n, .int .i64 y1.t.t.s, .slice none 0 0, .int .i64 0, .slice none 0 0, .int .i64 0, .int .i64 0, .slice none 0 0, .int .i64 0, .slice none 0 0, .int .i64 0, .int .i64 0]) := HT.o.sets 0 _;have st0 := HT.o.ox.there 0 5 (by simp);have one1 := all_oneCell_toArray (cs := y1.cl) (by simp [Value.oneCell']);clear hy1 he1 hb1 e3 Z1 HZ1;go_upto_region 3 with (refine wpList_store_mid rfl 37 _ _ rfl (w.heap.size + 1 + 1) 0 y1.ar rfl rfl st0 (by kernel_rfl) one1 ?_; try simp only [Act.put])
 clear st0 one1 HT;generalize w1.setCells _ _ _ = W1 at *;have HT := HTn;clear HTn;have ld : W1.rangeAt w.heap.size 5 x.p.cl := HT.o.px.range 5 _ rfl;have Z2 := HZ2.o;go_wp2_with (refine ldn Tryz.underlying63 ld ?_)
 refine (Z2 _ HT.o.bl).mono ?_;rintro e w2 ⟨y2, rfl, hy2, he2, hb2⟩;have e3 := HT.o.base;have HT := iH (HT.o.below hb2);have HM2 := iH ((hy2.base e3).upper (upper_sets (w.heap.size + 1 + 1) y2.cl 5 w2));have HM1 := iH ((HM1.o.upper (uB hb2)).upper (upper_sets (w.heap.size + 1 + 1) y2.cl 5 w2));have HE2 := iH he2;have HTn : Hd (TS w (w2.setCells (w.heap.size + 1 + 1) 5 y2.cl) x.cl zPl [.slice y1.v.a y1.v.len y1.v.cap, .int .i64 y1.t.t.k, .slice y1.t.t.a y1.t.t.len y1.t.t.cap, .int .i64 y1.t.t.n, .int .i64 y1.t.t.s, .slice y2.v.a y2.v.len y2.v.cap, .int .i64 y2.t.t.k, .slice y2.t.t.a y2.t.t.len y2.t.t.cap, .int .i64 y2.t.t.n, .int .i64 y2.t.t.s, .slice none 0 0, .int .i64 0, .slice none 0 0, .int .i64 0, .int .i64 0]) := HT.o.sets 5 _;have st0 := HT.o.ox.there 5 5 (by simp);have one1 := all_oneCell_toArray (cs := y2.cl) (by simp [Value.oneCell']);clear hy2 he2 hb2 e3 Z2 HZ2 ld;go_upto_region 4 with (refine wpList_store_mid rfl 37 _ _ rfl (w.heap.size + 1 + 1) 5 y2.ar rfl rfl st0 (by kernel_rfl) one1 ?_; try simp only [Act.put])
 clear st0 one1 HT;generalize w2.setCells _ _ _ = W2 at *;have HT := HTn;clear HTn;have ld : W2.rangeAt w.heap.size 10 x.o.cl := HT.o.px.range 10 _ rfl;have Z3 := HZ3.o;go_wp2_with (refine ldn Tryz.underlying63 ld ?_)
 refine (Z3 _ HT.o.bl).mono ?_;rintro e w3 ⟨y3, rfl, hy3, he3, hb3⟩;have e3 := HT.o.base;have HT := iH (HT.o.below hb3);have HM3 := iH ((hy3.base e3).upper (upper_sets (w.heap.size + 1 + 1) y3.cl 10 w3));have HM2 := iH ((HM2.o.upper (uB hb3)).upper (upper_sets (w.heap.size + 1 + 1) y3.cl 10 w3));have HM1 := iH ((HM1.o.upper (uB hb3)).upper (upper_sets (w.heap.size + 1 + 1) y3.cl 10 w3));have HE3 := iH he3;have HTn : Hd (TS w (w3.setCells (w.heap.size + 1 + 1) 10 y3.cl) x.cl zPl (pL y1 y2 y3)) := HT.o.sets 10 _;have st0 := HT.o.ox.there 10 5 (by simp);have one1 := all_oneCell_toArray (cs := y3.cl) (by simp [Value.oneCell']);clear hy3 he3 hb3 e3 Z3 HZ3 ld;go_upto_region 5 with (refine wpList_store_mid rfl 37 _ _ rfl (w.heap.size + 1 + 1) 10 y3.ar rfl rfl st0 (by kernel_rfl) one1 ?_; try simp only [Act.put])
 clear st0 one1 HT;generalize w3.setCells _ _ _ = W3 at *;have HT := HTn;clear HTn;have ld : W3.rangeAt (w.heap.size + 1 + 1) 0 (pL y1 y2 y3) := HT.o.ox.box.range 0 _ rfl;have st0 := HT.o.rz.there 0 15 (by simp);have one1 := all_oneCell_toArray (cs := (pL y1 y2 y3)) (by simp [Value.oneCell']);go_wp2_with (first | (refine ldn Tryz.underlying39 ld ?_) | (refine wpList_store_mid rfl 39 _ _ rfl (w.heap.size + 1) 0 (pA y1 y2 y3) rfl rfl st0 (by kernel_rfl) one1 ?_; try simp only [Act.put]))
 have hrd : (W3.setCells (w.heap.size + 1) 0 (pL y1 y2 y3)).rangeAt (w.heap.size + 1) 0 (pL y1 y2 y3) := World.rangeAt_setCells_same _ _ _ _ st0;refine bodyPost_ret (v := .agg (pA y1 y2 y3)) ?hr rfl ?hp
 case hr => exact results_cell rfl rfl (run_loadVar_mid (P := Tryz.prog) _ (w.heap.size + 1) 0 39 (pL y1 y2 y3) _ hrd Tryz.underlying39 rfl (by kernel_rfl))
 have HM3f : y3.own w.heap.size (W3.setCells (w.heap.size + 1) 0 (pL y1 y2 y3)) := ((HM3.o.upper ((upper_sets _ _ 0 W3).mono (by omega))).base (by omega));have HM2f : y2.own w.heap.size (W3.setCells (w.heap.size + 1) 0 (pL y1 y2 y3)) := ((HM2.o.upper ((upper_sets _ _ 0 W3).mono (by omega))).base (by omega));have HM1f : y1.own w.heap.size (W3.setCells (w.heap.size + 1) 0 (pL y1 y2 y3)) := ((HM1.o.upper ((upper_sets _ _ 0 W3).mono (by omega))).base (by omega));have hbf : Bl w (W3.setCells (w.heap.size + 1) 0 (pL y1 y2 y3)) := below_sets _ (by omega) _ _ _ HT.o.bl;exact ⟨⟨y1, y2, y3⟩, rfl, ⟨HM1f, HM2f, HM3f⟩, ⟨HE1.o, HE2.o, HE3.o⟩, hbf⟩
theorem run_make_toExprSW (n : Nat) (hn : n ≤ 1048576) (w : World) :
 (Instr.makeSlice 40 (.int .i64 (n : Int)) (.int .i64 (n : Int))).run Tryz.prog w = .ok (.slice (some ⟨w.heap.size, 0, none⟩) n n) (w.alloc (.cells (madeCells zEa (n * 8)) 42)) := by
 have hi0 : (Tryz.prog.info? 42).map (fun i => (i.zero, i.size, i.bytes)) = some (some (.agg zEa), 8, 112) := by kernel_rfl
 obtain ⟨i, hi, hzz⟩ := Option.map_eq_some_iff.1 hi0;simp only [Prod.mk.injEq] at hzz;obtain ⟨hz, hs, hb⟩ := hzz;have hr := run_make (P := Tryz.prog) w 40 42 i _ Tryz.underlying40 hi hz .i64 .i64 n n (by omega) (Int.le_refl _) (by rw [hb]; omega) (by omega);simp only [Int.toNat_natCast, hs, Value.cells] at hr;exact hr
def CptoExprSW (w : World) (n : Nat) (kid : Nat → ET) (e : Ending) (w' : World) : Prop := ∃ (g : Nat) (k' : Nat → ET), e = .returned (.slice (some ⟨g, 0, none⟩) n n) ∧ KRow w.heap.size w' 8 (some ⟨g, 0, none⟩) n (fun i => (k' i).d.cells) ∧ FrW w.heap.size w' g (n * 8) ∧ (∀ i, i < n → (k' i).own w.heap.size w') ∧ (∀ i, i < n → (kid i).same (k' i)) ∧ Bl w w'
theorem toExprSW (a : Option Addr) (cap n : Nat) (kid : Nat → ET) (w : World) (hn : n ≤ 1048576) (hR : KRow 0 w 8 a n (fun i => (kid i).d.cells))
 (IH : ∀ i, i < n → ∀ (W : World), Bl w W → Calls Tryz.prog 32 #[.agg (kid i).d.ar] W fun e w' => ∃ y : ET, e = .returned (.agg y.d.ar) ∧ y.own W.heap.size w' ∧ (kid i).same y ∧ Bl W w') :
 Calls Tryz.prog 81 #[.slice a n cap] w (CptoExprSW w n kid) := by
 try unfold EN.ar EN.cl
 have hmk := run_make_toExprSW n hn;by_cases hn0 : n = 0
 · subst hn0
   have hmk0 := fun w => by simpa using hmk w
   clear hmk hR IH hn;go_in;go_wp2;refine wl1 ?_;go_wp2;go_ret;exact ⟨w.heap.size, kid, rfl, .inl rfl, .inl (by simp), fun i hi => absurd hi nN, fun i hi => absurd hi nN, bl_a _⟩
 obtain ⟨b, off, rfl, _, hlt, hc⟩ := hR.resolve_left hn0;have HC := iH hc;have HI := iH IH;have HTH : Hd ((w.alloc (.cells (madeCells zEa (n * 8)) 42)).there w.heap.size 0 (n * 8)) := fun j hj => by
  have hs := size_madeCells zEa (n * 8);have h := OB.new w (madeCells zEa (n * 8)) 42;have h2 := h.2 (0 + j) _ (List.getElem?_eq_getElem (by rw [Array.length_toList, hs]; omega));exact ⟨by rw [h2.1]; rfl, h2.2⟩
 clear hR hc IH;go_in;go_wp2;go_loopw [4] (fun i wr => ∃ (k : Nat) (f : Nat → ET), k ≤ n ∧ i = .int .i64 k ∧ Hd (wr.there w.heap.size 0 (n * 8)) ∧ Hd (∀ j, j < k → wr.rangeAt w.heap.size (j * 8) ((f j).d.cells)) ∧ Hd (∀ j, j < k → (f j).own (w.heap.size + 1) wr) ∧ Hd (∀ j, j < k → (kid j).same (f j)) ∧ Hd (Bl w wr) ∧ Hd (w.heap.size < wr.heap.size))
  (fun i _ => n - (intOf i).toNat)
 case atStart => exact ⟨0, kid, nZ, rfl, HTH, fun j hj => absurd hj nN, fun j hj => absurd hj nN, fun j hj => absurd hj nN, bl_a _, (show w.heap.size < _ by simp)⟩
 obtain ⟨k, f, hk, rfl, HX, HR, HL, HS, HB, HZ⟩ := hrel;clear hmk HTH;by_cases hlk : k < n
 · have hlkz : (k : Int) < (n : Int) := by omega
   have hcx := fun c u (hu : ((kid k).d.cells)[c]? = some u) => (HB.o.cell (p := ⟨b, off + k * 8 + c, none⟩) hlt).trans (HC.o k hlk c u hu);have Z := HI.o k hlk;go_wp2_with (refine wpList_load_mid rfl 28 _ rfl b (off + k * 8) rfl (kid k).d.cl _ hcx Tryz.underlying28 rfl (by kernel_rfl) ?_; try simp only [Act.put, sA, zA, cA])
   refine (Z _ HB.o).mono ?_;rintro e w2 ⟨y, rfl, hy, he, hb2⟩;have hkz : k * 8 + 8 ≤ n * 8 := by rw [← Nat.succ_mul]; exact Nat.mul_le_mul_right _ hlk
   have hth : w2.there w.heap.size (k * 8) 8 := fun j hj => by
    have h := HX.o (k * 8 + j) (by omega);rw [Nat.zero_add] at h;exact ⟨by rw [hb2.cell (p := ⟨w.heap.size, k * 8 + j, none⟩) HZ.o]; exact h.1, (hb2.frozen (p := ⟨w.heap.size, k * 8 + j, none⟩) HZ.o).trans h.2⟩
   have HN1 : Hd ((w2.setCells w.heap.size (k * 8) y.d.cl).there w.heap.size 0 (n * 8)) := World.there_setCells (fun j hj => ⟨by rw [hb2.cell (p := ⟨w.heap.size, 0 + j, none⟩) HZ.o]; exact (HX.o j hj).1, (hb2.frozen (p := ⟨w.heap.size, 0 + j, none⟩) HZ.o).trans (HX.o j hj).2⟩) _ _ _;have hlen : (y.d.cl : List Value).length = 8 := rfl;have HN2 : Hd (∀ j, j < k + 1 → (w2.setCells w.heap.size (k * 8) y.d.cl).rangeAt w.heap.size (j * 8) ((if j = k then y else f j).d.cells)) := fun j hj => by
    by_cases e : j = k
    · subst e
      rw [if_pos rfl];exact World.rangeAt_setCells_same w2 _ _ _ (by rw [hlen]; exact hth)
    rw [if_neg e];have hjk : j * 8 + 8 ≤ k * 8 := by rw [← Nat.succ_mul]; exact Nat.mul_le_mul_right _ (by omega)
    refine World.rangeAt_setCells_apart (fun c u hu => (hb2.cell (p := ⟨w.heap.size, j * 8 + c, none⟩) HZ.o).trans (HR.o j (by omega) c u hu)) _ _ _ (.inr (.inl ?_));show j * 8 + 8 ≤ _;exact hjk
   have hu3 : Upper (w.heap.size + 1) w2 (w2.setCells w.heap.size (k * 8) y.d.cl) := upper_sets _ _ _ _;have HN3 : Hd (∀ j, j < k + 1 → (if j = k then y else f j).own (w.heap.size + 1) (w2.setCells w.heap.size (k * 8) y.d.cl)) := fun j hj => by
    by_cases e : j = k
    · rw [if_pos e]
      exact ((hy).base HZ.o).upper hu3
    rw [if_neg e];exact ((HL.o j (by omega)).upper (uB hb2)).upper hu3
   have HN4 : Hd (∀ j, j < k + 1 → (kid j).same (if j = k then y else f j)) := fun j hj => by
    by_cases e : j = k
    · rw [if_pos e, e]
      exact he
    rw [if_neg e];exact HS.o j (by omega)
   have HN5 : Hd (Bl w (w2.setCells w.heap.size (k * 8) y.d.cl)) := below_sets _ nR _ _ _ (bl_trans HB.o hb2);have HN6 := iH (Nat.lt_of_lt_of_le (Nat.lt_of_lt_of_le HZ.o hb2.size) hu3.size);have one1 := all_oneCell_toArray (cs := y.d.cl) (by simp [Value.oneCell']);clear Z hcx hy he hb2 hu3 hlen hkz HX HR HL HS HB HZ;go_upto_region 4 with (refine wpList_store_mid rfl 42 _ _ rfl w.heap.size (k * 8) y.d.ar rfl rfl hth (by kernel_rfl) one1 ?_; try simp only [Act.put])
   clear hth one1;go_wp2;go_roundw
   case rel => exact ⟨k + 1, fun j => if j = k then y else f j, by omega, by go_num, HN1, HN2, HN3, HN4, HN5, HN6⟩
   case measure => simp [intOf]; omega
 obtain rfl : k = n := by omega
 have hlkz : ¬ (k : Int) < (k : Int) := by omega
 go_wp2;go_ret;exact ⟨w.heap.size, f, rfl, .inr ⟨w.heap.size, 0, rfl, nR, HZ.o, fun i hi c u hu => by rw [Nat.zero_add]; exact HR.o i hi c u hu⟩, .inr ⟨nR, HZ.o, fun j hj => by have h := (HX.o j hj).2; rwa [Nat.zero_add] at h⟩, fun i hi => (HL.o i hi).base (Nat.le_succ _), HS.o, HB.o⟩
theorem toExprW (e : ET) : ∀ (w : World), e.lies 0 w → Calls Tryz.prog 32 #[.agg e.d.ar] w fun r w' => ∃ y : ET, r = .returned (.agg y.d.ar) ∧ y.own w.heap.size w' ∧ e.same y ∧ Bl w w' := by
 induction e with
 | nil => exact fun _ h => False.elim h
 | mk d kid ih =>
  intro w h;show Calls Tryz.prog 32 #[.agg d.ar] w fun r w' => ∃ y : ET, r = .returned (.agg y.d.ar) ∧ y.own w.heap.size w' ∧ (ET.mk d kid).same y ∧ Bl w w';obtain ⟨hv, ht, hf, hn, hR, hk⟩ := h;have HZ1 := iH (fun (W : World) (hb : Below _ w W) => toByteSW d.v W (hv.upper (uB hb)));have HZ2 := iH (fun (W : World) (hb : Below _ w W) => toTermW d.t W (ht.upper (uB hb)) hf);have HZ3 : Hd (∀ (W : World), Bl w W → Cl 81 #[.slice d.ka d.n d.kc] W fun e w' => ∃ (g : Nat) (k' : Nat → ET), e = .returned (.slice (some ⟨g, 0, none⟩) d.n d.n) ∧ KRow W.heap.size w' 8 (some ⟨g, 0, none⟩) d.n (fun i => (k' i).d.cells) ∧ FrW W.heap.size w' g (d.n * 8) ∧ (∀ i, i < d.n → (k' i).own W.heap.size w') ∧ (∀ i, i < d.n → (kid i).same (k' i)) ∧ Bl W w') := fun W hb => toExprSW _ _ d.n kid W hn (hR.upper (uB hb)) fun i hi W' hW => ih i W' (ET.lies.upper (uB (bl_trans hb hW)) (hk i hi));have HN := iH hn;clear hv ht hf hn hR hk ih;go_in;have Z1 := HZ1.o;go_wp2_with fail
  refine (Z1 _ (bl_alloc (bl_alloc (bl_a _) _) _)).mono ?_;rintro e w1 ⟨y1, rfl, hy1, he1, hb1⟩;have HT := iH ((TS.new w _ _ _ 28 42 42).below hb1);have e3 : (w.heap.size + 1 + 1 + 1) ≤ (((w.alloc (.cells d.ar 28)).alloc (.cells zEa 42)).alloc (.cells #[.int .i64 d.k, .int .i64 d.op, .slice none 0 0, .int .i64 0, .slice none 0 0, .int .i64 0, .int .i64 0, .slice none 0 0] 42)).heap.size := by simp
  have HM1 := iH ((hy1.base e3).upper (upper_set (w := w1) (g := w.heap.size + 1 + 1) (i := 2) (.slice y1.a y1.len y1.cap)));have HE1 := iH he1;have HTn : Hd (TS w (w1.setCell ⟨w.heap.size + 1 + 1, 2, none⟩ (.slice y1.a y1.len y1.cap)) d.cl zEl [.int .i64 d.k, .int .i64 d.op, .slice y1.a y1.len y1.cap, .int .i64 0, .slice none 0 0, .int .i64 0, .int .i64 0, .slice none 0 0]) := HT.o.set 2 _;have st0 := (HT.o.ox.2 2 _ rfl).1;have st1 := (HT.o.ox.2 2 _ rfl).2;clear hy1 he1 hb1 e3 Z1 HZ1;go_upto_region 5 with fail
  clear st0 st1 HT;generalize w1.setCell _ _ = W1 at *;have HT := HTn;clear HTn;have ld : W1.rangeAt w.heap.size 3 [.int .i64 d.t.t.k, .slice d.t.t.a d.t.t.len d.t.t.cap, .int .i64 d.t.t.n, .int .i64 d.t.t.s] := HT.o.px.range 3 _ rfl;have Z2 := HZ2.o;go_wp2_with (refine ldn Tryz.underlying25 ld ?_)
  refine (Z2 _ HT.o.bl).mono ?_;rintro e w2 ⟨y2, rfl, hy2, hw2, hf2, he2, hb2⟩;have e3 := HT.o.base;have HT := iH (HT.o.below hb2);have HM2 := iH ((hy2.base e3).upper (upper_sets (w.heap.size + 1 + 1) [.int .i64 y2.t.k, .slice y2.t.a y2.t.len y2.t.cap, .int .i64 y2.t.n, .int .i64 y2.t.s] 3 w2));have HW2 := iH ((hw2.base e3).upper (upper_sets (w.heap.size + 1 + 1) [.int .i64 y2.t.k, .slice y2.t.a y2.t.len y2.t.cap, .int .i64 y2.t.n, .int .i64 y2.t.s] 3 w2));have HM1 := iH ((HM1.o.upper (uB hb2)).upper (upper_sets (w.heap.size + 1 + 1) [.int .i64 y2.t.k, .slice y2.t.a y2.t.len y2.t.cap, .int .i64 y2.t.n, .int .i64 y2.t.s] 3 w2));have HE2 := iH he2;have HF2 := iH hf2;have HTn : Hd (TS w (w2.setCells (w.heap.size + 1 + 1) 3 [.int .i64 y2.t.k, .slice y2.t.a y2.t.len y2.t.cap, .int .i64 y2.t.n, .int .i64 y2.t.s]) d.cl zEl (eL d.k d.op y1 y2 (.slice none 0 0))) := HT.o.sets 3 _;have st0 := HT.o.ox.there 3 4 (by simp);have one1 := all_oneCell_toArray (cs := [.int .i64 y2.t.k, .slice y2.t.a y2.t.len y2.t.cap, .int .i64 y2.t.n, .int .i64 y2.t.s]) (by simp [Value.oneCell']);clear hy2 hw2 he2 hf2 hb2 e3 Z2 HZ2 ld;go_upto_region 6 with (refine wpList_store_mid rfl 35 _ _ rfl (w.heap.size + 1 + 1) 3 #[.int .i64 y2.t.k, .slice y2.t.a y2.t.len y2.t.cap, .int .i64 y2.t.n, .int .i64 y2.t.s] rfl rfl st0 (by kernel_rfl) one1 ?_; try simp only [Act.put])
  clear st0 one1 HT;generalize w2.setCells _ _ _ = W2 at *;have HT := HTn;clear HTn;have ld := HT.o.px.2 7 _ rfl;have Z3 := HZ3.o;go_wp2_with fail
  refine (Z3 _ HT.o.bl).mono ?_;rintro e w3 ⟨g3, k3, rfl, hy3, hw3, hz3, he3, hb3⟩;have e3 := HT.o.base;have HT := iH (HT.o.below hb3);have HM3 := iH ((hy3.base e3).upper (upper_set (w := w3) (g := w.heap.size + 1 + 1) (i := 7) (.slice (some ⟨g3, 0, none⟩) d.n d.n)));have HW3 := iH ((hw3.base e3).upper (upper_set (w := w3) (g := w.heap.size + 1 + 1) (i := 7) (.slice (some ⟨g3, 0, none⟩) d.n d.n)));have HL3 := iH (fun i (hi : i < d.n) => ((fun i hi => (hz3 i hi).base e3) i hi).upper (upper_set (w := w3) (g := w.heap.size + 1 + 1) (i := 7) (.slice (some ⟨g3, 0, none⟩) d.n d.n)));have HM2 := iH ((HM2.o.upper (uB hb3)).upper (upper_set (w := w3) (g := w.heap.size + 1 + 1) (i := 7) (.slice (some ⟨g3, 0, none⟩) d.n d.n)));have HW2 := iH ((HW2.o.upper (uB hb3)).upper (upper_set (w := w3) (g := w.heap.size + 1 + 1) (i := 7) (.slice (some ⟨g3, 0, none⟩) d.n d.n)));have HM1 := iH ((HM1.o.upper (uB hb3)).upper (upper_set (w := w3) (g := w.heap.size + 1 + 1) (i := 7) (.slice (some ⟨g3, 0, none⟩) d.n d.n)));have HE3 := iH he3;have HTn : Hd (TS w (w3.setCell ⟨w.heap.size + 1 + 1, 7, none⟩ (.slice (some ⟨g3, 0, none⟩) d.n d.n)) d.cl zEl (eL d.k d.op y1 y2 (.slice (some ⟨g3, 0, none⟩) d.n d.n))) := HT.o.set 7 _;have st0 := (HT.o.ox.2 7 _ rfl).1;have st1 := (HT.o.ox.2 7 _ rfl).2;clear hy3 hw3 hz3 he3 hb3 e3 Z3 HZ3 ld;go_upto_region 7 with fail
  clear st0 st1 HT;generalize w3.setCell _ _ = W3 at *;have HT := HTn;clear HTn;have ld : W3.rangeAt (w.heap.size + 1 + 1) 0 (eL d.k d.op y1 y2 (.slice (some ⟨g3, 0, none⟩) d.n d.n)) := HT.o.ox.box.range 0 _ rfl;have st0 := HT.o.rz.there 0 8 (by simp);have one1 := all_oneCell_toArray (cs := (eL d.k d.op y1 y2 (.slice (some ⟨g3, 0, none⟩) d.n d.n))) (by simp [Value.oneCell']);go_wp2_with (first | (refine ldn Tryz.underlying42 ld ?_) | (refine wpList_store_mid rfl 42 _ _ rfl (w.heap.size + 1) 0 (eA d.k d.op y1 y2 (.slice (some ⟨g3, 0, none⟩) d.n d.n)) rfl rfl st0 (by kernel_rfl) one1 ?_; try simp only [Act.put]))
  have hrd : (W3.setCells (w.heap.size + 1) 0 (eL d.k d.op y1 y2 (.slice (some ⟨g3, 0, none⟩) d.n d.n))).rangeAt (w.heap.size + 1) 0 (eL d.k d.op y1 y2 (.slice (some ⟨g3, 0, none⟩) d.n d.n)) := World.rangeAt_setCells_same _ _ _ _ st0;refine bodyPost_ret (v := .agg (eA d.k d.op y1 y2 (.slice (some ⟨g3, 0, none⟩) d.n d.n))) ?hr rfl ?hp
  case hr => exact results_cell rfl rfl (run_loadVar_mid (P := Tryz.prog) _ (w.heap.size + 1) 0 42 (eL d.k d.op y1 y2 (.slice (some ⟨g3, 0, none⟩) d.n d.n)) _ hrd Tryz.underlying42 rfl (by kernel_rfl))
  have HM3f : KRow w.heap.size (W3.setCells (w.heap.size + 1) 0 (eL d.k d.op y1 y2 (.slice (some ⟨g3, 0, none⟩) d.n d.n))) 8 (some ⟨g3, 0, none⟩) d.n (fun i => (k3 i).d.cells) := ((HM3.o.upper ((upper_sets _ _ 0 W3).mono (by omega))).base (by omega));have HW3f : FrW w.heap.size (W3.setCells (w.heap.size + 1) 0 (eL d.k d.op y1 y2 (.slice (some ⟨g3, 0, none⟩) d.n d.n))) g3 (d.n * 8) := ((HW3.o.upper ((upper_sets _ _ 0 W3).mono (by omega))).base (by omega));have HL3f : ∀ i, i < d.n → (k3 i).own w.heap.size (W3.setCells (w.heap.size + 1) 0 (eL d.k d.op y1 y2 (.slice (some ⟨g3, 0, none⟩) d.n d.n))) := (fun i hi => ((fun i hi => (HL3.o i hi).upper ((upper_sets _ _ 0 W3).mono (by omega))) i hi).base (by omega));have HM2f : BsF w.heap.size (W3.setCells (w.heap.size + 1) 0 (eL d.k d.op y1 y2 (.slice (some ⟨g3, 0, none⟩) d.n d.n))) y2.sl := ((HM2.o.upper ((upper_sets _ _ 0 W3).mono (by omega))).base (by omega));have HW2f : TxW w.heap.size (W3.setCells (w.heap.size + 1) 0 (eL d.k d.op y1 y2 (.slice (some ⟨g3, 0, none⟩) d.n d.n))) y2.sl := ((HW2.o.upper ((upper_sets _ _ 0 W3).mono (by omega))).base (by omega));have HM1f : y1.own w.heap.size (W3.setCells (w.heap.size + 1) 0 (eL d.k d.op y1 y2 (.slice (some ⟨g3, 0, none⟩) d.n d.n))) := ((HM1.o.upper ((upper_sets _ _ 0 W3).mono (by omega))).base (by omega));have hbf : Bl w (W3.setCells (w.heap.size + 1) 0 (eL d.k d.op y1 y2 (.slice (some ⟨g3, 0, none⟩) d.n d.n))) := below_sets _ (by omega) _ _ _ HT.o.bl;exact ⟨ET.mk ⟨d.k, d.op, y1, y2, some _, d.n, d.n⟩ k3, rfl, ⟨⟨HM1f.1, HM2f, HF2.o, HN.o, HM3f, fun i hi => (HL3f i hi).1⟩, HM1f.2, HW2f, ⟨g3, rfl, HW3f⟩, fun i hi => (HL3f i hi).2⟩, ⟨rfl, rfl, HE1.o, HE2.o, rfl, HE3.o⟩, hbf⟩
theorem run_make_toTermSW_of (n : Nat) (hn : n ≤ 1048576) (w : World) :
 (Instr.makeSlice 43 (.int .i64 (n : Int)) (.int .i64 (n : Int))).run Tryz.prog w = .ok (.slice (some ⟨w.heap.size, 0, none⟩) n n) (w.alloc (.cells (madeCells #[.int .i64 0, .slice none 0 0, .int .i64 0, .int .i64 0] (n * 4)) 35)) := by
 have hi0 : (Tryz.prog.info? 35).map (fun i => (i.zero, i.size, i.bytes)) = some (some (.agg #[.int .i64 0, .slice none 0 0, .int .i64 0, .int .i64 0]), 4, 48) := by kernel_rfl
 obtain ⟨i, hi, hzz⟩ := Option.map_eq_some_iff.1 hi0;simp only [Prod.mk.injEq] at hzz;obtain ⟨hz, hs, hb⟩ := hzz;have hr := run_make (P := Tryz.prog) w 43 35 i _ Tryz.underlying43 hi hz .i64 .i64 n n (by omega) (Int.le_refl _) (by rw [hb]; omega) (by omega);simp only [Int.toNat_natCast, hs, Value.cells] at hr;exact hr
def CptoTermSW_of (w : World) (n : Nat) (tm : Nat → TB) (e : Ending) (w' : World) : Prop := ∃ (g : Nat) (k' : Nat → TB), e = .returned (.slice (some ⟨g, 0, none⟩) n n) ∧ KRow w.heap.size w' 4 (some ⟨g, 0, none⟩) n (fun i => enc4 (k' i).t) ∧ FrW w.heap.size w' g (n * 4) ∧ (∀ i, i < n → (k' i).own w.heap.size w') ∧ (∀ i, i < n → (tm i).same (k' i)) ∧ Bl w w'
theorem toTermSW_of (a : Option Addr) (cap n : Nat) (tm : Nat → TB) (w : World) (hn : n ≤ 1048576) (hR : KRow 0 w 4 a n (fun i => enc4 (tm i).t))
 (IH : ∀ i, i < n → ∀ (W : World), Bl w W → Calls Tryz.prog 80 #[.agg #[.int .i64 (tm i).t.k, .slice (tm i).t.a (tm i).t.len (tm i).t.cap, .int .i64 (tm i).t.n, .int .i64 (tm i).t.s]] W fun e w' => ∃ y : TB, e = .returned (.agg #[.int .i64 y.t.k, .slice y.t.a y.t.len y.t.cap, .int .i64 y.t.n, .int .i64 y.t.s]) ∧ y.own W.heap.size w' ∧ (tm i).same y ∧ Bl W w') :
 Calls Tryz.prog 34 #[.slice a n cap] w (CptoTermSW_of w n tm) := by
 have hmk := run_make_toTermSW_of n hn;by_cases hn0 : n = 0
 · subst hn0
   have hmk0 := fun w => by simpa using hmk w
   clear hmk hR IH hn;go_in;go_wp2;refine wl1 ?_;go_wp2;go_ret;exact ⟨w.heap.size, tm, rfl, .inl rfl, .inl (by simp), fun i hi => absurd hi nN, fun i hi => absurd hi nN, bl_a _⟩
 obtain ⟨b, off, rfl, _, hlt, hc⟩ := hR.resolve_left hn0;have HC := iH hc;have HI := iH IH;have HTH : Hd ((w.alloc (.cells (madeCells #[.int .i64 0, .slice none 0 0, .int .i64 0, .int .i64 0] (n * 4)) 35)).there w.heap.size 0 (n * 4)) := fun j hj => by
  have hs := size_madeCells #[.int .i64 0, .slice none 0 0, .int .i64 0, .int .i64 0] (n * 4);have h := OB.new w (madeCells #[.int .i64 0, .slice none 0 0, .int .i64 0, .int .i64 0] (n * 4)) 35;have h2 := h.2 (0 + j) _ (List.getElem?_eq_getElem (by rw [Array.length_toList, hs]; omega));exact ⟨by rw [h2.1]; rfl, h2.2⟩
 clear hR hc IH;go_in;go_wp2;go_loopw [4] (fun i wr => ∃ (k : Nat) (f : Nat → TB), k ≤ n ∧ i = .int .i64 k ∧ Hd (wr.there w.heap.size 0 (n * 4)) ∧ Hd (∀ j, j < k → wr.rangeAt w.heap.size (j * 4) (enc4 (f j).t)) ∧ Hd (∀ j, j < k → (f j).own (w.heap.size + 1) wr) ∧ Hd (∀ j, j < k → (tm j).same (f j)) ∧ Hd (Bl w wr) ∧ Hd (w.heap.size < wr.heap.size))
  (fun i _ => n - (intOf i).toNat)
 case atStart => exact ⟨0, tm, nZ, rfl, HTH, fun j hj => absurd hj nN, fun j hj => absurd hj nN, fun j hj => absurd hj nN, bl_a _, (show w.heap.size < _ by simp)⟩
 obtain ⟨k, f, hk, rfl, HX, HR, HL, HS, HB, HZ⟩ := hrel;clear hmk HTH;by_cases hlk : k < n
 · have hlkz : (k : Int) < (n : Int) := by omega
   have hcx := fun c u (hu : (enc4 _)[c]? = some u) => (HB.o.cell (p := ⟨b, off + k * 4 + c, none⟩) hlt).trans (HC.o k hlk c u hu);have Z := HI.o k hlk;go_wp2_with (refine ldn Tryz.underlying25 hcx ?_)
   refine (Z _ HB.o).mono ?_;rintro e w2 ⟨y, rfl, hy, he, hb2⟩;have hkz : k * 4 + 4 ≤ n * 4 := by rw [← Nat.succ_mul]; exact Nat.mul_le_mul_right _ hlk
   have hth : w2.there w.heap.size (k * 4) 4 := fun j hj => by
    have h := HX.o (k * 4 + j) (by omega);rw [Nat.zero_add] at h;exact ⟨by rw [hb2.cell (p := ⟨w.heap.size, k * 4 + j, none⟩) HZ.o]; exact h.1, (hb2.frozen (p := ⟨w.heap.size, k * 4 + j, none⟩) HZ.o).trans h.2⟩
   have HN1 : Hd ((w2.setCells w.heap.size (k * 4) [.int .i64 y.t.k, .slice y.t.a y.t.len y.t.cap, .int .i64 y.t.n, .int .i64 y.t.s]).there w.heap.size 0 (n * 4)) := World.there_setCells (fun j hj => ⟨by rw [hb2.cell (p := ⟨w.heap.size, 0 + j, none⟩) HZ.o]; exact (HX.o j hj).1, (hb2.frozen (p := ⟨w.heap.size, 0 + j, none⟩) HZ.o).trans (HX.o j hj).2⟩) _ _ _;have hlen : ([.int .i64 y.t.k, .slice y.t.a y.t.len y.t.cap, .int .i64 y.t.n, .int .i64 y.t.s] : List Value).length = 4 := rfl;have HN2 : Hd (∀ j, j < k + 1 → (w2.setCells w.heap.size (k * 4) [.int .i64 y.t.k, .slice y.t.a y.t.len y.t.cap, .int .i64 y.t.n, .int .i64 y.t.s]).rangeAt w.heap.size (j * 4) (enc4 (if j = k then y else f j).t)) := fun j hj => by
    by_cases e : j = k
    · subst e
      rw [if_pos rfl];exact World.rangeAt_setCells_same w2 _ _ _ (by rw [hlen]; exact hth)
    rw [if_neg e];have hjk : j * 4 + 4 ≤ k * 4 := by rw [← Nat.succ_mul]; exact Nat.mul_le_mul_right _ (by omega)
    refine World.rangeAt_setCells_apart (fun c u hu => (hb2.cell (p := ⟨w.heap.size, j * 4 + c, none⟩) HZ.o).trans (HR.o j (by omega) c u hu)) _ _ _ (.inr (.inl ?_));show j * 4 + 4 ≤ _;exact hjk
   have hu3 : Upper (w.heap.size + 1) w2 (w2.setCells w.heap.size (k * 4) [.int .i64 y.t.k, .slice y.t.a y.t.len y.t.cap, .int .i64 y.t.n, .int .i64 y.t.s]) := upper_sets _ _ _ _;have HN3 : Hd (∀ j, j < k + 1 → (if j = k then y else f j).own (w.heap.size + 1) (w2.setCells w.heap.size (k * 4) [.int .i64 y.t.k, .slice y.t.a y.t.len y.t.cap, .int .i64 y.t.n, .int .i64 y.t.s])) := fun j hj => by
    by_cases e : j = k
    · rw [if_pos e]
      exact ((hy).base HZ.o).upper hu3
    rw [if_neg e];exact ((HL.o j (by omega)).upper (uB hb2)).upper hu3
   have HN4 : Hd (∀ j, j < k + 1 → (tm j).same (if j = k then y else f j)) := fun j hj => by
    by_cases e : j = k
    · rw [if_pos e, e]
      exact he
    rw [if_neg e];exact HS.o j (by omega)
   have HN5 : Hd (Bl w (w2.setCells w.heap.size (k * 4) [.int .i64 y.t.k, .slice y.t.a y.t.len y.t.cap, .int .i64 y.t.n, .int .i64 y.t.s])) := below_sets _ nR _ _ _ (bl_trans HB.o hb2);have HN6 := iH (Nat.lt_of_lt_of_le (Nat.lt_of_lt_of_le HZ.o hb2.size) hu3.size);have one1 := all_oneCell_toArray (cs := [.int .i64 y.t.k, .slice y.t.a y.t.len y.t.cap, .int .i64 y.t.n, .int .i64 y.t.s]) (by simp [Value.oneCell']);clear Z hcx hy he hb2 hu3 hlen hkz HX HR HL HS HB HZ;go_upto_region 4 with (refine wpList_store_mid rfl 35 _ _ rfl w.heap.size (k * 4) #[.int .i64 y.t.k, .slice y.t.a y.t.len y.t.cap, .int .i64 y.t.n, .int .i64 y.t.s] rfl rfl hth (by kernel_rfl) one1 ?_; try simp only [Act.put])
   clear hth one1;go_wp2;go_roundw
   case rel => exact ⟨k + 1, fun j => if j = k then y else f j, by omega, by go_num, HN1, HN2, HN3, HN4, HN5, HN6⟩
   case measure => simp [intOf]; omega
 obtain rfl : k = n := by omega
 have hlkz : ¬ (k : Int) < (k : Int) := by omega
 go_wp2;go_ret;exact ⟨w.heap.size, f, rfl, .inr ⟨w.heap.size, 0, rfl, nR, HZ.o, fun i hi c u hu => by rw [Nat.zero_add]; exact HR.o i hi c u hu⟩, .inr ⟨nR, HZ.o, fun j hj => by have h := (HX.o j hj).2; rwa [Nat.zero_add] at h⟩, fun i hi => (HL.o i hi).base (Nat.le_succ _), HS.o, HB.o⟩
theorem toTermSW (a : Option Addr) (cap : Nat) (tb : List TB) (w : World) (hn : tb.length ≤ 1048576) (h : TRowF 0 w a tb) :
 Calls Tryz.prog 34 #[.slice a tb.length cap] w fun e w' => ∃ (a' : Option Addr) (c' : Nat) (l' : List TB), e = .returned (.slice a' l'.length c') ∧ TRowF w.heap.size w' a' l' ∧ TsW w.heap.size w' a' l' ∧ tb.map TB.td = l'.map TB.td ∧ Bl w w' := by
 refine (toTermSW_of a cap _ _ w hn (trow_krow h) fun i hi W hW => ?_).mono ?_
 · have hm := (tbG_at hi)
   have h2 := h.2.2 _ hm.2;rw [← hm.1] at h2;refine (toTermW _ W (h2.1.upper (uB hW)) h2.2).mono ?_;rintro e w' ⟨y, rfl, h3, h4, h5, h6, h7⟩;exact ⟨y, rfl, ⟨⟨h3, h5⟩, h4⟩, h6, h7⟩
 rintro e w' ⟨g, f, rfl, h1, hw, h2, h3, h4⟩;refine ⟨some _, tb.length, (List.range _).map f, by simp, krow_trow h1 (fun i hi => (h2 i hi).1), ⟨⟨g, rfl, by simpa using hw⟩, fun x hx => ?_⟩, ?_, h4⟩
 · obtain ⟨i, hi, rfl⟩ := List.mem_map.1 hx
   exact (h2 i (List.mem_range.1 hi)).2
 apply List.ext_getElem
 · simp
 intro i hi hi';have hi1 : i < tb.length := by simpa using hi
 have := h3 i hi1;rw [(tbG_at hi1).1] at this;have h5 : tb[i].td = (f i).td := this;simpa using h5
structure TE (B C : Nat) (w : World) (g o : Nat) (d : TB) : Prop where
 hB : B ≤ g
 hC : g < C
 n0 : WN w g (o)
 n2 : WN w g (o + 2)
 n3 : WN w g (o + 3)
 s1 : w.cell? ⟨g, o + 1, none⟩ = some (.slice d.t.a d.t.len d.t.cap)
 t1 : TxM B C w d.t.a d.t.len
theorem TE.kb {d : TB} (h : TE B C w g o d) (k : KB w w') : TE B C w' g o d :=
 ⟨h.hB, h.hC, h.n0.kb k, h.n2.kb k, h.n3.kb k, k.s _ _ _ _ _ h.s1, h.t1.kb k⟩
def TsX (B C : Nat) (w : World) (a : Option Addr) (n : Nat) (kid : Nat → TB) : Prop := n = 0 ∨ ∃ g, a = some ⟨g, 0, none⟩ ∧ ∀ i, i < n → TE B C w g (i * 4) (kid i) ∧ True
theorem TsX.kb {kid : Nat → TB} (h : TsX B C w a n kid) (k : KB w w') : TsX B C w' a n kid := by
 rcases h with h | ⟨g, ha, hx⟩
 · exact .inl h
 exact .inr ⟨g, ha, fun i hi => ⟨(hx i hi).1.kb k, trivial⟩⟩
def tbN (tb : List TB) (i : Nat) : TB := tb[i]?.getD EN0.t
theorem twt_eq (tb : List TB) : twt tb tb.length = sumN tb.length (fun i => (tbN tb i).t.len) := by
 refine sumN_congr fun i hi => ?_;unfold tbN;rw [List.getElem?_eq_getElem hi];rfl
end Go.Proofs.YtoloadogihbdeaaGreat
